/-
  viewportlaw05.LeastNames: whatever comes in, it returns true, and each argument reads as it read before. No condition.
-/
import Derived.Test.YtljepknbeaopjaaAx9
import Derived.Test.YtljepknbeaopjaaKeys
import Derived.Test.YtljepknbeaopjaaTabs0
import Derived.Test.YtljepknbeaopjaaProg
import Derived.KernelRfl
import Derived.Test.YtljepknbeaopjaaPLeastNames1
import Derived.Test.YtljepknbeaopjaaPLeastNames2
import Derived.Test.YtljepknbeaopjaaPLeastNames3
import Derived.Test.YtljepknbeaopjaaPLeastNames4
import Derived.Test.YtljepknbeaopjaaPLeastNames5
import Derived.Test.YtljepknbeaopjaaPLeastNames6
import Derived.Test.YtljepknbeaopjaaPLeastNames7
import Derived.Test.YtljepknbeaopjaaPLeastNames8
import Derived.Test.YtljepknbeaopjaaPLeastNames9
import Derived.Test.YtljepknbeaopjaaPLeastNames10
import Derived.Test.YtljepknbeaopjaaPLeastNames11
import Derived.Test.YtljepknbeaopjaaPLeastNames12
import Derived.Test.YtljepknbeaopjaaPLeastNames13
import Derived.Test.YtljepknbeaopjaaPLeastNames14
import Derived.Test.YtljepknbeaopjaaPLeastNames15
import Derived.Test.YtljepknbeaopjaaPLeastNames16
import Derived.Test.YtljepknbeaopjaaPLeastNames17
import Derived.Test.YtljepknbeaopjaaPLeastNames18
import Derived.Test.YtljepknbeaopjaaPLeastNames19
import Derived.Test.YtljepknbeaopjaaPLeastNames20
import Derived.Test.YtljepknbeaopjaaPLeastNames21
import Derived.Test.YtljepknbeaopjaaPLeastNames22
import Derived.Test.YtljepknbeaopjaaPLeastNames23
import Derived.Test.YtljepknbeaopjaaPLeastNames24
import Derived.Test.YtljepknbeaopjaaPLeastNames25
import Derived.Test.YtljepknbeaopjaaPLeastNames26
import Derived.Test.YtljepknbeaopjaaPLeastNames27
import Derived.Test.YtljepknbeaopjaaPLeastNames28
import Derived.Test.YtljepknbeaopjaaPLeastNames29
import Derived.Test.YtljepknbeaopjaaPLeastNames30
import Derived.Test.YtljepknbeaopjaaPLeastNames31
import Derived.Test.YtljepknbeaopjaaPLeastNames32
import Derived.Test.YtljepknbeaopjaaPLeastNames33
import Derived.Test.YtljepknbeaopjaaPLeastNames34
import Derived.Test.YtljepknbeaopjaaPLeastNames35
import Derived.Test.YtljepknbeaopjaaPLeastNames36
import Derived.Test.YtljepknbeaopjaaPLeastNames37
import Derived.Test.YtljepknbeaopjaaPLeastNames38
import Derived.Test.YtljepknbeaopjaaPLeastNames39
import Derived.Test.YtljepknbeaopjaaPLeastNames40
import Derived.Test.YtljepknbeaopjaaPLeastNames41
import Derived.Test.YtljepknbeaopjaaPLeastNames42
import Derived.Test.YtljepknbeaopjaaPLeastNames43
import Derived.Test.YtljepknbeaopjaaPLeastNames44
import Derived.Test.YtljepknbeaopjaaPLeastNames45
import Derived.Test.YtljepknbeaopjaaPLeastNames46
import Derived.Test.YtljepknbeaopjaaAx5
import Derived.Test.YtljepknbeaopjaaChecked
import Derived.Test.YtljepknbeaopjaaRows
import Derived.WalkKit
import Derived.ProofKit
import Derived.OpenShut
import Derived.ShutString
import Derived.ChangeOld
import Derived.Below
import Derived.Lib.SmallJoins
set_option linter.unusedSimpArgs false
set_option linter.unusedVariables false
namespace Go.Proofs.Ytljepknbeaopjaa.leastNames
open Go.Proofs Go.Proofs.Ytljepknbeaopjaa Ax

theorem h3044 : LOK Try.prog g3044 := Ax.partLQ (ql := quiets) (K := sks) (l := []) (m := []) mixed quiets_ok sks_ok trivial trivial c3044
theorem h2563 : LOK Try.prog g2563 := Ax.partLQ (ql := quiets) (K := sks) (l := []) (m := [g3044]) mixed quiets_ok sks_ok trivial ⟨h3044, trivial⟩ c2563
theorem h2082 : LOK Try.prog g2082 := Ax.partLQ (ql := quiets) (K := sks) (l := []) (m := [g2563]) mixed quiets_ok sks_ok trivial ⟨h2563, trivial⟩ c2082
theorem h1601 : LOK Try.prog g1601 := Ax.partLQ (ql := quiets) (K := sks) (l := []) (m := [g2082]) mixed quiets_ok sks_ok trivial ⟨h2082, trivial⟩ c1601
theorem h1134 : LOK Try.prog g1134 := Ax.partLQ (ql := quiets) (K := sks) (l := []) (m := [g1601]) mixed quiets_ok sks_ok trivial ⟨h1601, trivial⟩ c1134
theorem h653 : LOK Try.prog g653 := Ax.partLQ (ql := quiets) (K := sks) (l := []) (m := [g1134]) mixed quiets_ok sks_ok trivial ⟨h1134, trivial⟩ c653
theorem h185 : LOK Try.prog g185 := Ax.partLQ (ql := quiets) (K := sks) (l := []) (m := [g653]) mixed quiets_ok sks_ok trivial ⟨h653, trivial⟩ c185
theorem h6383 : LOK Try.prog g6383 := Ax.partLQ (ql := quiets) (K := sks) (l := []) (m := []) mixed quiets_ok sks_ok trivial trivial c6383
theorem h5915 : LOK Try.prog g5915 := Ax.partLQ (ql := quiets) (K := sks) (l := []) (m := [g6383]) mixed quiets_ok sks_ok trivial ⟨h6383, trivial⟩ c5915
theorem h5447 : LOK Try.prog g5447 := Ax.partLQ (ql := quiets) (K := sks) (l := []) (m := [g5915]) mixed quiets_ok sks_ok trivial ⟨h5915, trivial⟩ c5447
theorem h4979 : LOK Try.prog g4979 := Ax.partLQ (ql := quiets) (K := sks) (l := []) (m := [g5447]) mixed quiets_ok sks_ok trivial ⟨h5447, trivial⟩ c4979
theorem h4505 : LOK Try.prog g4505 := Ax.partLQ (ql := quiets) (K := sks) (l := []) (m := [g4979]) mixed quiets_ok sks_ok trivial ⟨h4979, trivial⟩ c4505
theorem h4037 : LOK Try.prog g4037 := Ax.partLQ (ql := quiets) (K := sks) (l := []) (m := [g4505]) mixed quiets_ok sks_ok trivial ⟨h4505, trivial⟩ c4037
theorem h3569 : LOK Try.prog g3569 := Ax.partLQ (ql := quiets) (K := sks) (l := []) (m := [g4037]) mixed quiets_ok sks_ok trivial ⟨h4037, trivial⟩ c3569
theorem h9722 : LOK Try.prog g9722 := Ax.partLQ (ql := quiets) (K := sks) (l := []) (m := []) mixed quiets_ok sks_ok trivial trivial c9722
theorem h9254 : LOK Try.prog g9254 := Ax.partLQ (ql := quiets) (K := sks) (l := []) (m := [g9722]) mixed quiets_ok sks_ok trivial ⟨h9722, trivial⟩ c9254
theorem h8786 : LOK Try.prog g8786 := Ax.partLQ (ql := quiets) (K := sks) (l := []) (m := [g9254]) mixed quiets_ok sks_ok trivial ⟨h9254, trivial⟩ c8786
theorem h8318 : LOK Try.prog g8318 := Ax.partLQ (ql := quiets) (K := sks) (l := []) (m := [g8786]) mixed quiets_ok sks_ok trivial ⟨h8786, trivial⟩ c8318
theorem h7844 : LOK Try.prog g7844 := Ax.partLQ (ql := quiets) (K := sks) (l := []) (m := [g8318]) mixed quiets_ok sks_ok trivial ⟨h8318, trivial⟩ c7844
theorem h7376 : LOK Try.prog g7376 := Ax.partLQ (ql := quiets) (K := sks) (l := []) (m := [g7844]) mixed quiets_ok sks_ok trivial ⟨h7844, trivial⟩ c7376
theorem h6908 : LOK Try.prog g6908 := Ax.partLQ (ql := quiets) (K := sks) (l := []) (m := [g7376]) mixed quiets_ok sks_ok trivial ⟨h7376, trivial⟩ c6908
theorem o3 : EntryOK Try.prog e3 := Ax.partCQ (ql := quiets) (K := sks) (l := []) (m := [g185, g3569, g6908]) mixed quiets_ok sks_ok trivial ⟨h185, h3569, h6908, trivial⟩ c3
theorem h10512 : LOK Try.prog g10512 := Ax.partLQ (ql := quiets) (K := sks) (l := []) (m := []) mixed quiets_ok sks_ok trivial trivial c10512
theorem o10206 : EntryOK Try.prog e10206 := Ax.partCQ (ql := quiets) (K := sks) (l := []) (m := [g10512]) mixed quiets_ok sks_ok trivial ⟨h10512, trivial⟩ c10206
theorem h11290 : LOK Try.prog g11290 := Ax.partLQ (ql := quiets) (K := sks) (l := []) (m := []) mixed quiets_ok sks_ok trivial trivial c11290
theorem o10983 : EntryOK Try.prog e10983 := Ax.partCQ (ql := quiets) (K := sks) (l := []) (m := [g11290]) mixed quiets_ok sks_ok trivial ⟨h11290, trivial⟩ c10983
theorem h12295 : LOK Try.prog g12295 := Ax.partLQ (ql := quiets) (K := sks) (l := []) (m := []) mixed quiets_ok sks_ok trivial trivial c12295
theorem h12036 : LOK Try.prog g12036 := Ax.partLQ (ql := quiets) (K := sks) (l := []) (m := [g12295]) mixed quiets_ok sks_ok trivial ⟨h12295, trivial⟩ c12036
theorem h13075 : LOK Try.prog g13075 := Ax.partLQ (ql := quiets) (K := sks) (l := []) (m := []) mixed quiets_ok sks_ok trivial trivial c13075
theorem h12816 : LOK Try.prog g12816 := Ax.partLQ (ql := quiets) (K := sks) (l := []) (m := [g13075]) mixed quiets_ok sks_ok trivial ⟨h13075, trivial⟩ c12816
theorem h12555 : LOK Try.prog g12555 := Ax.partLQ (ql := quiets) (K := sks) (l := []) (m := [g12816]) mixed quiets_ok sks_ok trivial ⟨h12816, trivial⟩ c12555
theorem h13335 : LOK Try.prog g13335 := Ax.partLQ (ql := quiets) (K := sks) (l := []) (m := []) mixed quiets_ok sks_ok trivial trivial c13335
theorem o10205 : EntryOK Try.prog e10205 := Ax.partCQ (ql := quiets) (K := sks) (l := [e10206, e10983]) (m := [g12036, g12555, g13335]) mixed quiets_ok sks_ok ⟨o10206, o10983, trivial⟩ ⟨h12036, h12555, h13335, trivial⟩ c10205
theorem h15776 : LOK Try.prog g15776 := Ax.partLQ (ql := quiets) (K := sks) (l := []) (m := []) mixed quiets_ok sks_ok trivial trivial c15776
theorem h15296 : LOK Try.prog g15296 := Ax.partLQ (ql := quiets) (K := sks) (l := []) (m := [g15776]) mixed quiets_ok sks_ok trivial ⟨h15776, trivial⟩ c15296
theorem h14816 : LOK Try.prog g14816 := Ax.partLQ (ql := quiets) (K := sks) (l := []) (m := [g15296]) mixed quiets_ok sks_ok trivial ⟨h15296, trivial⟩ c14816
theorem h14337 : LOK Try.prog g14337 := Ax.partLQ (ql := quiets) (K := sks) (l := []) (m := [g14816]) mixed quiets_ok sks_ok trivial ⟨h14816, trivial⟩ c14337
theorem h13857 : LOK Try.prog g13857 := Ax.partLQ (ql := quiets) (K := sks) (l := []) (m := [g14337]) mixed quiets_ok sks_ok trivial ⟨h14337, trivial⟩ c13857
theorem h18347 : LOK Try.prog g18347 := Ax.partLQ (ql := quiets) (K := sks) (l := []) (m := []) mixed quiets_ok sks_ok trivial trivial c18347
theorem h17867 : LOK Try.prog g17867 := Ax.partLQ (ql := quiets) (K := sks) (l := []) (m := [g18347]) mixed quiets_ok sks_ok trivial ⟨h18347, trivial⟩ c17867
theorem h17387 : LOK Try.prog g17387 := Ax.partLQ (ql := quiets) (K := sks) (l := []) (m := [g17867]) mixed quiets_ok sks_ok trivial ⟨h17867, trivial⟩ c17387
theorem h16911 : LOK Try.prog g16911 := Ax.partLQ (ql := quiets) (K := sks) (l := []) (m := [g17387]) mixed quiets_ok sks_ok trivial ⟨h17387, trivial⟩ c16911
theorem h16431 : LOK Try.prog g16431 := Ax.partLQ (ql := quiets) (K := sks) (l := []) (m := [g16911]) mixed quiets_ok sks_ok trivial ⟨h16911, trivial⟩ c16431
theorem o13595 : EntryOK Try.prog e13595 := Ax.partCQ (ql := quiets) (K := sks) (l := []) (m := [g13857, g16431]) mixed quiets_ok sks_ok trivial ⟨h13857, h16431, trivial⟩ c13595
theorem h18880 : LOK Try.prog g18880 := Ax.partLQ (ql := quiets) (K := sks) (l := []) (m := []) mixed quiets_ok sks_ok trivial trivial c18880
theorem h19401 : LOK Try.prog g19401 := Ax.partLQ (ql := quiets) (K := sks) (l := []) (m := []) mixed quiets_ok sks_ok trivial trivial c19401
theorem h20143 : LOK Try.prog g20143 := Ax.partLQ (ql := quiets) (K := sks) (l := []) (m := []) mixed quiets_ok sks_ok trivial trivial c20143
theorem h20664 : LOK Try.prog g20664 := Ax.partLQ (ql := quiets) (K := sks) (l := []) (m := []) mixed quiets_ok sks_ok trivial trivial c20664
theorem h20403 : LOK Try.prog g20403 := Ax.partLQ (ql := quiets) (K := sks) (l := []) (m := [g20664]) mixed quiets_ok sks_ok trivial ⟨h20664, trivial⟩ c20403
theorem o19349 : EntryOK Try.prog e19349 := Ax.partCQ (ql := quiets) (K := sks) (l := []) (m := [g19401, g20143, g20403]) mixed quiets_ok sks_ok trivial ⟨h19401, h20143, h20403, trivial⟩ c19349
theorem o18829 : EntryOK Try.prog e18829 := Ax.partCQ (ql := quiets) (K := sks) (l := [e19349]) (m := [g18880]) mixed quiets_ok sks_ok ⟨o19349, trivial⟩ ⟨h18880, trivial⟩ c18829
theorem h23345 : LOK Try.prog g23345 := Ax.partLQ (ql := quiets) (K := sks) (l := []) (m := []) mixed quiets_ok sks_ok trivial trivial c23345
theorem h22865 : LOK Try.prog g22865 := Ax.partLQ (ql := quiets) (K := sks) (l := []) (m := [g23345]) mixed quiets_ok sks_ok trivial ⟨h23345, trivial⟩ c22865
theorem h22385 : LOK Try.prog g22385 := Ax.partLQ (ql := quiets) (K := sks) (l := []) (m := [g22865]) mixed quiets_ok sks_ok trivial ⟨h22865, trivial⟩ c22385
theorem h21909 : LOK Try.prog g21909 := Ax.partLQ (ql := quiets) (K := sks) (l := []) (m := [g22385]) mixed quiets_ok sks_ok trivial ⟨h22385, trivial⟩ c21909
theorem h21429 : LOK Try.prog g21429 := Ax.partLQ (ql := quiets) (K := sks) (l := []) (m := [g21909]) mixed quiets_ok sks_ok trivial ⟨h21909, trivial⟩ c21429
theorem h25913 : LOK Try.prog g25913 := Ax.partLQ (ql := quiets) (K := sks) (l := []) (m := []) mixed quiets_ok sks_ok trivial trivial c25913
theorem h25433 : LOK Try.prog g25433 := Ax.partLQ (ql := quiets) (K := sks) (l := []) (m := [g25913]) mixed quiets_ok sks_ok trivial ⟨h25913, trivial⟩ c25433
theorem h24953 : LOK Try.prog g24953 := Ax.partLQ (ql := quiets) (K := sks) (l := []) (m := [g25433]) mixed quiets_ok sks_ok trivial ⟨h25433, trivial⟩ c24953
theorem h24480 : LOK Try.prog g24480 := Ax.partLQ (ql := quiets) (K := sks) (l := []) (m := [g24953]) mixed quiets_ok sks_ok trivial ⟨h24953, trivial⟩ c24480
theorem h24000 : LOK Try.prog g24000 := Ax.partLQ (ql := quiets) (K := sks) (l := []) (m := [g24480]) mixed quiets_ok sks_ok trivial ⟨h24480, trivial⟩ c24000
theorem o21184 : EntryOK Try.prog e21184 := Ax.partCQ (ql := quiets) (K := sks) (l := []) (m := [g21429, g24000]) mixed quiets_ok sks_ok trivial ⟨h21429, h24000, trivial⟩ c21184
theorem h28556 : LOK Try.prog g28556 := Ax.partLQ (ql := quiets) (K := sks) (l := []) (m := []) mixed quiets_ok sks_ok trivial trivial c28556
theorem h28076 : LOK Try.prog g28076 := Ax.partLQ (ql := quiets) (K := sks) (l := []) (m := [g28556]) mixed quiets_ok sks_ok trivial ⟨h28556, trivial⟩ c28076
theorem h27596 : LOK Try.prog g27596 := Ax.partLQ (ql := quiets) (K := sks) (l := []) (m := [g28076]) mixed quiets_ok sks_ok trivial ⟨h28076, trivial⟩ c27596
theorem h27120 : LOK Try.prog g27120 := Ax.partLQ (ql := quiets) (K := sks) (l := []) (m := [g27596]) mixed quiets_ok sks_ok trivial ⟨h27596, trivial⟩ c27120
theorem h26640 : LOK Try.prog g26640 := Ax.partLQ (ql := quiets) (K := sks) (l := []) (m := [g27120]) mixed quiets_ok sks_ok trivial ⟨h27120, trivial⟩ c26640
theorem h31124 : LOK Try.prog g31124 := Ax.partLQ (ql := quiets) (K := sks) (l := []) (m := []) mixed quiets_ok sks_ok trivial trivial c31124
theorem h30644 : LOK Try.prog g30644 := Ax.partLQ (ql := quiets) (K := sks) (l := []) (m := [g31124]) mixed quiets_ok sks_ok trivial ⟨h31124, trivial⟩ c30644
theorem h30164 : LOK Try.prog g30164 := Ax.partLQ (ql := quiets) (K := sks) (l := []) (m := [g30644]) mixed quiets_ok sks_ok trivial ⟨h30644, trivial⟩ c30164
theorem h29691 : LOK Try.prog g29691 := Ax.partLQ (ql := quiets) (K := sks) (l := []) (m := [g30164]) mixed quiets_ok sks_ok trivial ⟨h30164, trivial⟩ c29691
theorem h29211 : LOK Try.prog g29211 := Ax.partLQ (ql := quiets) (K := sks) (l := []) (m := [g29691]) mixed quiets_ok sks_ok trivial ⟨h29691, trivial⟩ c29211
theorem o26395 : EntryOK Try.prog e26395 := Ax.partCQ (ql := quiets) (K := sks) (l := []) (m := [g26640, g29211]) mixed quiets_ok sks_ok trivial ⟨h26640, h29211, trivial⟩ c26395
theorem h31657 : LOK Try.prog g31657 := Ax.partLQ (ql := quiets) (K := sks) (l := []) (m := []) mixed quiets_ok sks_ok trivial trivial c31657
theorem h32176 : LOK Try.prog g32176 := Ax.partLQ (ql := quiets) (K := sks) (l := []) (m := []) mixed quiets_ok sks_ok trivial trivial c32176
theorem o32655 : EntryOK Try.prog e32655 := Ax.partCQ (ql := quiets) (K := sks) (l := []) (m := []) mixed quiets_ok sks_ok trivial trivial c32655
theorem h35054 : LOK Try.prog g35054 := Ax.partLQ (ql := quiets) (K := sks) (l := []) (m := []) mixed quiets_ok sks_ok trivial trivial c35054
theorem h34574 : LOK Try.prog g34574 := Ax.partLQ (ql := quiets) (K := sks) (l := []) (m := [g35054]) mixed quiets_ok sks_ok trivial ⟨h35054, trivial⟩ c34574
theorem h34094 : LOK Try.prog g34094 := Ax.partLQ (ql := quiets) (K := sks) (l := []) (m := [g34574]) mixed quiets_ok sks_ok trivial ⟨h34574, trivial⟩ c34094
theorem h33614 : LOK Try.prog g33614 := Ax.partLQ (ql := quiets) (K := sks) (l := []) (m := [g34094]) mixed quiets_ok sks_ok trivial ⟨h34094, trivial⟩ c33614
theorem h33134 : LOK Try.prog g33134 := Ax.partLQ (ql := quiets) (K := sks) (l := []) (m := [g33614]) mixed quiets_ok sks_ok trivial ⟨h33614, trivial⟩ c33134
theorem o32917 : EntryOK Try.prog e32917 := Ax.partCQ (ql := quiets) (K := sks) (l := []) (m := [g33134]) mixed quiets_ok sks_ok trivial ⟨h33134, trivial⟩ c32917
theorem h36063 : LOK Try.prog g36063 := Ax.partLQ (ql := quiets) (K := sks) (l := []) (m := []) mixed quiets_ok sks_ok trivial trivial c36063
theorem o35799 : EntryOK Try.prog e35799 := Ax.partCQ (ql := quiets) (K := sks) (l := []) (m := [g36063]) mixed quiets_ok sks_ok trivial ⟨h36063, trivial⟩ c35799
theorem h36589 : LOK Try.prog g36589 := Ax.partLQ (ql := quiets) (K := sks) (l := []) (m := []) mixed quiets_ok sks_ok trivial trivial c36589
theorem o35536 : EntryOK Try.prog e35536 := Ax.partCQ (ql := quiets) (K := sks) (l := [e35799]) (m := [g36589]) mixed quiets_ok sks_ok ⟨o35799, trivial⟩ ⟨h36589, trivial⟩ c35536
theorem h41247 : LOK Try.prog g41247 := Ax.partLQ (ql := quiets) (K := sks) (l := []) (m := []) mixed quiets_ok sks_ok trivial trivial c41247
theorem h40761 : LOK Try.prog g40761 := Ax.partLQ (ql := quiets) (K := sks) (l := []) (m := [g41247]) mixed quiets_ok sks_ok trivial ⟨h41247, trivial⟩ c40761
theorem h40275 : LOK Try.prog g40275 := Ax.partLQ (ql := quiets) (K := sks) (l := []) (m := [g40761]) mixed quiets_ok sks_ok trivial ⟨h40761, trivial⟩ c40275
theorem h39789 : LOK Try.prog g39789 := Ax.partLQ (ql := quiets) (K := sks) (l := []) (m := [g40275]) mixed quiets_ok sks_ok trivial ⟨h40275, trivial⟩ c39789
theorem h39303 : LOK Try.prog g39303 := Ax.partLQ (ql := quiets) (K := sks) (l := []) (m := [g39789]) mixed quiets_ok sks_ok trivial ⟨h39789, trivial⟩ c39303
theorem h38821 : LOK Try.prog g38821 := Ax.partLQ (ql := quiets) (K := sks) (l := []) (m := [g39303]) mixed quiets_ok sks_ok trivial ⟨h39303, trivial⟩ c38821
theorem h38335 : LOK Try.prog g38335 := Ax.partLQ (ql := quiets) (K := sks) (l := []) (m := [g38821]) mixed quiets_ok sks_ok trivial ⟨h38821, trivial⟩ c38335
theorem h37849 : LOK Try.prog g37849 := Ax.partLQ (ql := quiets) (K := sks) (l := []) (m := [g38335]) mixed quiets_ok sks_ok trivial ⟨h38335, trivial⟩ c37849
theorem h37363 : LOK Try.prog g37363 := Ax.partLQ (ql := quiets) (K := sks) (l := []) (m := [g37849]) mixed quiets_ok sks_ok trivial ⟨h37849, trivial⟩ c37363
theorem h45891 : LOK Try.prog g45891 := Ax.partLQ (ql := quiets) (K := sks) (l := []) (m := []) mixed quiets_ok sks_ok trivial trivial c45891
theorem h45423 : LOK Try.prog g45423 := Ax.partLQ (ql := quiets) (K := sks) (l := []) (m := [g45891]) mixed quiets_ok sks_ok trivial ⟨h45891, trivial⟩ c45423
theorem h44955 : LOK Try.prog g44955 := Ax.partLQ (ql := quiets) (K := sks) (l := []) (m := [g45423]) mixed quiets_ok sks_ok trivial ⟨h45423, trivial⟩ c44955
theorem h44487 : LOK Try.prog g44487 := Ax.partLQ (ql := quiets) (K := sks) (l := []) (m := [g44955]) mixed quiets_ok sks_ok trivial ⟨h44955, trivial⟩ c44487
theorem h44019 : LOK Try.prog g44019 := Ax.partLQ (ql := quiets) (K := sks) (l := []) (m := [g44487]) mixed quiets_ok sks_ok trivial ⟨h44487, trivial⟩ c44019
theorem h43551 : LOK Try.prog g43551 := Ax.partLQ (ql := quiets) (K := sks) (l := []) (m := [g44019]) mixed quiets_ok sks_ok trivial ⟨h44019, trivial⟩ c43551
theorem h43089 : LOK Try.prog g43089 := Ax.partLQ (ql := quiets) (K := sks) (l := []) (m := [g43551]) mixed quiets_ok sks_ok trivial ⟨h43551, trivial⟩ c43089
theorem h42621 : LOK Try.prog g42621 := Ax.partLQ (ql := quiets) (K := sks) (l := []) (m := [g43089]) mixed quiets_ok sks_ok trivial ⟨h43089, trivial⟩ c42621
theorem h42153 : LOK Try.prog g42153 := Ax.partLQ (ql := quiets) (K := sks) (l := []) (m := [g42621]) mixed quiets_ok sks_ok trivial ⟨h42621, trivial⟩ c42153
theorem h48908 : LOK Try.prog g48908 := Ax.partLQ (ql := quiets) (K := sks) (l := []) (m := []) mixed quiets_ok sks_ok trivial trivial c48908
theorem h48392 : LOK Try.prog g48392 := Ax.partLQ (ql := quiets) (K := sks) (l := []) (m := [g48908]) mixed quiets_ok sks_ok trivial ⟨h48908, trivial⟩ c48392
theorem h47876 : LOK Try.prog g47876 := Ax.partLQ (ql := quiets) (K := sks) (l := []) (m := [g48392]) mixed quiets_ok sks_ok trivial ⟨h48392, trivial⟩ c47876
theorem h47360 : LOK Try.prog g47360 := Ax.partLQ (ql := quiets) (K := sks) (l := []) (m := [g47876]) mixed quiets_ok sks_ok trivial ⟨h47876, trivial⟩ c47360
theorem h46844 : LOK Try.prog g46844 := Ax.partLQ (ql := quiets) (K := sks) (l := []) (m := [g47360]) mixed quiets_ok sks_ok trivial ⟨h47360, trivial⟩ c46844
theorem h51985 : LOK Try.prog g51985 := Ax.partLQ (ql := quiets) (K := sks) (l := []) (m := []) mixed quiets_ok sks_ok trivial trivial c51985
theorem h51469 : LOK Try.prog g51469 := Ax.partLQ (ql := quiets) (K := sks) (l := []) (m := [g51985]) mixed quiets_ok sks_ok trivial ⟨h51985, trivial⟩ c51469
theorem h50953 : LOK Try.prog g50953 := Ax.partLQ (ql := quiets) (K := sks) (l := []) (m := [g51469]) mixed quiets_ok sks_ok trivial ⟨h51469, trivial⟩ c50953
theorem h50437 : LOK Try.prog g50437 := Ax.partLQ (ql := quiets) (K := sks) (l := []) (m := [g50953]) mixed quiets_ok sks_ok trivial ⟨h50953, trivial⟩ c50437
theorem h49921 : LOK Try.prog g49921 := Ax.partLQ (ql := quiets) (K := sks) (l := []) (m := [g50437]) mixed quiets_ok sks_ok trivial ⟨h50437, trivial⟩ c49921
theorem h55062 : LOK Try.prog g55062 := Ax.partLQ (ql := quiets) (K := sks) (l := []) (m := []) mixed quiets_ok sks_ok trivial trivial c55062
theorem h54546 : LOK Try.prog g54546 := Ax.partLQ (ql := quiets) (K := sks) (l := []) (m := [g55062]) mixed quiets_ok sks_ok trivial ⟨h55062, trivial⟩ c54546
theorem h54030 : LOK Try.prog g54030 := Ax.partLQ (ql := quiets) (K := sks) (l := []) (m := [g54546]) mixed quiets_ok sks_ok trivial ⟨h54546, trivial⟩ c54030
theorem h53514 : LOK Try.prog g53514 := Ax.partLQ (ql := quiets) (K := sks) (l := []) (m := [g54030]) mixed quiets_ok sks_ok trivial ⟨h54030, trivial⟩ c53514
theorem h52998 : LOK Try.prog g52998 := Ax.partLQ (ql := quiets) (K := sks) (l := []) (m := [g53514]) mixed quiets_ok sks_ok trivial ⟨h53514, trivial⟩ c52998
theorem h52514 : LOK Try.prog g52514 := Ax.partLQ (ql := quiets) (K := sks) (l := []) (m := [g52998]) mixed quiets_ok sks_ok trivial ⟨h52998, trivial⟩ c52514
theorem h49437 : LOK Try.prog g49437 := Ax.partLQ (ql := quiets) (K := sks) (l := []) (m := [g49921, g52514]) mixed quiets_ok sks_ok trivial ⟨h49921, h52514, trivial⟩ c49437
theorem h46360 : LOK Try.prog g46360 := Ax.partLQ (ql := quiets) (K := sks) (l := []) (m := [g46844, g49437]) mixed quiets_ok sks_ok trivial ⟨h46844, h49437, trivial⟩ c46360
theorem h41734 : LOK Try.prog g41734 := Ax.partLQ (ql := quiets) (K := sks) (l := []) (m := [g42153, g46360]) mixed quiets_ok sks_ok trivial ⟨h42153, h46360, trivial⟩ c41734
theorem o37084 : EntryOK Try.prog e37084 := Ax.partCQ (ql := quiets) (K := sks) (l := []) (m := [g37363, g41734]) mixed quiets_ok sks_ok trivial ⟨h37363, h41734, trivial⟩ c37084
theorem o36849 : EntryOK Try.prog e36849 := Ax.partCQ (ql := quiets) (K := sks) (l := [e37084]) (m := []) mixed quiets_ok sks_ok ⟨o37084, trivial⟩ trivial c36849
theorem h56411 : LOK Try.prog g56411 := Ax.partLQ (ql := quiets) (K := sks) (l := []) (m := []) mixed quiets_ok sks_ok trivial trivial c56411
theorem h55957 : LOK Try.prog g55957 := Ax.partLQ (ql := quiets) (K := sks) (l := []) (m := [g56411]) mixed quiets_ok sks_ok trivial ⟨h56411, trivial⟩ c55957
theorem o55593 : EntryOK Try.prog e55593 := Ax.partCQ (ql := quiets) (K := sks) (l := []) (m := [g55957]) mixed quiets_ok sks_ok trivial ⟨h55957, trivial⟩ c55593
theorem h57592 : LOK Try.prog g57592 := Ax.partLQ (ql := quiets) (K := sks) (l := []) (m := []) mixed quiets_ok sks_ok trivial trivial c57592
theorem h57280 : LOK Try.prog g57280 := Ax.partLQ (ql := quiets) (K := sks) (l := []) (m := [g57592]) mixed quiets_ok sks_ok trivial ⟨h57592, trivial⟩ c57280
theorem h56968 : LOK Try.prog g56968 := Ax.partLQ (ql := quiets) (K := sks) (l := []) (m := [g57280]) mixed quiets_ok sks_ok trivial ⟨h57280, trivial⟩ c56968
theorem h58544 : LOK Try.prog g58544 := Ax.partLQ (ql := quiets) (K := sks) (l := []) (m := []) mixed quiets_ok sks_ok trivial trivial c58544
theorem h58156 : LOK Try.prog g58156 := Ax.partLQ (ql := quiets) (K := sks) (l := []) (m := [g58544]) mixed quiets_ok sks_ok trivial ⟨h58544, trivial⟩ c58156
theorem h59648 : LOK Try.prog g59648 := Ax.partLQ (ql := quiets) (K := sks) (l := []) (m := []) mixed quiets_ok sks_ok trivial trivial c59648
theorem h59336 : LOK Try.prog g59336 := Ax.partLQ (ql := quiets) (K := sks) (l := []) (m := [g59648]) mixed quiets_ok sks_ok trivial ⟨h59648, trivial⟩ c59336
theorem h59024 : LOK Try.prog g59024 := Ax.partLQ (ql := quiets) (K := sks) (l := []) (m := [g59336]) mixed quiets_ok sks_ok trivial ⟨h59336, trivial⟩ c59024
theorem h57913 : LOK Try.prog g57913 := Ax.partLQ (ql := quiets) (K := sks) (l := []) (m := [g58156, g59024]) mixed quiets_ok sks_ok trivial ⟨h58156, h59024, trivial⟩ c57913
theorem h62119 : LOK Try.prog g62119 := Ax.partLQ (ql := quiets) (K := sks) (l := []) (m := []) mixed quiets_ok sks_ok trivial trivial c62119
theorem h61639 : LOK Try.prog g61639 := Ax.partLQ (ql := quiets) (K := sks) (l := []) (m := [g62119]) mixed quiets_ok sks_ok trivial ⟨h62119, trivial⟩ c61639
theorem h61159 : LOK Try.prog g61159 := Ax.partLQ (ql := quiets) (K := sks) (l := []) (m := [g61639]) mixed quiets_ok sks_ok trivial ⟨h61639, trivial⟩ c61159
theorem h60683 : LOK Try.prog g60683 := Ax.partLQ (ql := quiets) (K := sks) (l := []) (m := [g61159]) mixed quiets_ok sks_ok trivial ⟨h61159, trivial⟩ c60683
theorem h60203 : LOK Try.prog g60203 := Ax.partLQ (ql := quiets) (K := sks) (l := []) (m := [g60683]) mixed quiets_ok sks_ok trivial ⟨h60683, trivial⟩ c60203
theorem h64148 : LOK Try.prog g64148 := Ax.partLQ (ql := quiets) (K := sks) (l := []) (m := []) mixed quiets_ok sks_ok trivial trivial c64148
theorem h63652 : LOK Try.prog g63652 := Ax.partLQ (ql := quiets) (K := sks) (l := []) (m := [g64148]) mixed quiets_ok sks_ok trivial ⟨h64148, trivial⟩ c63652
theorem h63156 : LOK Try.prog g63156 := Ax.partLQ (ql := quiets) (K := sks) (l := []) (m := [g63652]) mixed quiets_ok sks_ok trivial ⟨h63652, trivial⟩ c63156
theorem h62660 : LOK Try.prog g62660 := Ax.partLQ (ql := quiets) (K := sks) (l := []) (m := [g63156]) mixed quiets_ok sks_ok trivial ⟨h63156, trivial⟩ c62660
theorem o59977 : EntryOK Try.prog e59977 := Ax.partCQ (ql := quiets) (K := sks) (l := []) (m := [g60203, g62660]) mixed quiets_ok sks_ok trivial ⟨h60203, h62660, trivial⟩ c59977
theorem h64705 : LOK Try.prog g64705 := Ax.partLQ (ql := quiets) (K := sks) (l := []) (m := []) mixed quiets_ok sks_ok trivial trivial c64705
theorem h65883 : LOK Try.prog g65883 := Ax.partLQ (ql := quiets) (K := sks) (l := []) (m := []) mixed quiets_ok sks_ok trivial trivial c65883
theorem h65567 : LOK Try.prog g65567 := Ax.partLQ (ql := quiets) (K := sks) (l := []) (m := [g65883]) mixed quiets_ok sks_ok trivial ⟨h65883, trivial⟩ c65567
theorem h65251 : LOK Try.prog g65251 := Ax.partLQ (ql := quiets) (K := sks) (l := []) (m := [g65567]) mixed quiets_ok sks_ok trivial ⟨h65567, trivial⟩ c65251
theorem h66835 : LOK Try.prog g66835 := Ax.partLQ (ql := quiets) (K := sks) (l := []) (m := []) mixed quiets_ok sks_ok trivial trivial c66835
theorem h66443 : LOK Try.prog g66443 := Ax.partLQ (ql := quiets) (K := sks) (l := []) (m := [g66835]) mixed quiets_ok sks_ok trivial ⟨h66835, trivial⟩ c66443
theorem h67939 : LOK Try.prog g67939 := Ax.partLQ (ql := quiets) (K := sks) (l := []) (m := []) mixed quiets_ok sks_ok trivial trivial c67939
theorem h67623 : LOK Try.prog g67623 := Ax.partLQ (ql := quiets) (K := sks) (l := []) (m := [g67939]) mixed quiets_ok sks_ok trivial ⟨h67939, trivial⟩ c67623
theorem h67307 : LOK Try.prog g67307 := Ax.partLQ (ql := quiets) (K := sks) (l := []) (m := [g67623]) mixed quiets_ok sks_ok trivial ⟨h67623, trivial⟩ c67307
theorem h66204 : LOK Try.prog g66204 := Ax.partLQ (ql := quiets) (K := sks) (l := []) (m := [g66443, g67307]) mixed quiets_ok sks_ok trivial ⟨h66443, h67307, trivial⟩ c66204
theorem o64654 : EntryOK Try.prog e64654 := Ax.partCQ (ql := quiets) (K := sks) (l := []) (m := [g64705, g65251, g66204]) mixed quiets_ok sks_ok trivial ⟨h64705, h65251, h66204, trivial⟩ c64654
theorem h71026 : LOK Try.prog g71026 := Ax.partLQ (ql := quiets) (K := sks) (l := []) (m := []) mixed quiets_ok sks_ok trivial trivial c71026
theorem h70534 : LOK Try.prog g70534 := Ax.partLQ (ql := quiets) (K := sks) (l := []) (m := [g71026]) mixed quiets_ok sks_ok trivial ⟨h71026, trivial⟩ c70534
theorem h70042 : LOK Try.prog g70042 := Ax.partLQ (ql := quiets) (K := sks) (l := []) (m := [g70534]) mixed quiets_ok sks_ok trivial ⟨h70534, trivial⟩ c70042
theorem h69556 : LOK Try.prog g69556 := Ax.partLQ (ql := quiets) (K := sks) (l := []) (m := [g70042]) mixed quiets_ok sks_ok trivial ⟨h70042, trivial⟩ c69556
theorem h69064 : LOK Try.prog g69064 := Ax.partLQ (ql := quiets) (K := sks) (l := []) (m := [g69556]) mixed quiets_ok sks_ok trivial ⟨h69556, trivial⟩ c69064
theorem h68572 : LOK Try.prog g68572 := Ax.partLQ (ql := quiets) (K := sks) (l := []) (m := [g69064]) mixed quiets_ok sks_ok trivial ⟨h69064, trivial⟩ c68572
theorem h74629 : LOK Try.prog g74629 := Ax.partLQ (ql := quiets) (K := sks) (l := []) (m := []) mixed quiets_ok sks_ok trivial trivial c74629
theorem h74153 : LOK Try.prog g74153 := Ax.partLQ (ql := quiets) (K := sks) (l := []) (m := [g74629]) mixed quiets_ok sks_ok trivial ⟨h74629, trivial⟩ c74153
theorem h73677 : LOK Try.prog g73677 := Ax.partLQ (ql := quiets) (K := sks) (l := []) (m := [g74153]) mixed quiets_ok sks_ok trivial ⟨h74153, trivial⟩ c73677
theorem h73201 : LOK Try.prog g73201 := Ax.partLQ (ql := quiets) (K := sks) (l := []) (m := [g73677]) mixed quiets_ok sks_ok trivial ⟨h73677, trivial⟩ c73201
theorem h72727 : LOK Try.prog g72727 := Ax.partLQ (ql := quiets) (K := sks) (l := []) (m := [g73201]) mixed quiets_ok sks_ok trivial ⟨h73201, trivial⟩ c72727
theorem h72251 : LOK Try.prog g72251 := Ax.partLQ (ql := quiets) (K := sks) (l := []) (m := [g72727]) mixed quiets_ok sks_ok trivial ⟨h72727, trivial⟩ c72251
theorem h71775 : LOK Try.prog g71775 := Ax.partLQ (ql := quiets) (K := sks) (l := []) (m := [g72251]) mixed quiets_ok sks_ok trivial ⟨h72251, trivial⟩ c71775
theorem h77174 : LOK Try.prog g77174 := Ax.partLQ (ql := quiets) (K := sks) (l := []) (m := []) mixed quiets_ok sks_ok trivial trivial c77174
theorem h76664 : LOK Try.prog g76664 := Ax.partLQ (ql := quiets) (K := sks) (l := []) (m := [g77174]) mixed quiets_ok sks_ok trivial ⟨h77174, trivial⟩ c76664
theorem h76154 : LOK Try.prog g76154 := Ax.partLQ (ql := quiets) (K := sks) (l := []) (m := [g76664]) mixed quiets_ok sks_ok trivial ⟨h76664, trivial⟩ c76154
theorem h75644 : LOK Try.prog g75644 := Ax.partLQ (ql := quiets) (K := sks) (l := []) (m := [g76154]) mixed quiets_ok sks_ok trivial ⟨h76154, trivial⟩ c75644
theorem h75134 : LOK Try.prog g75134 := Ax.partLQ (ql := quiets) (K := sks) (l := []) (m := [g75644]) mixed quiets_ok sks_ok trivial ⟨h75644, trivial⟩ c75134
theorem h79739 : LOK Try.prog g79739 := Ax.partLQ (ql := quiets) (K := sks) (l := []) (m := []) mixed quiets_ok sks_ok trivial trivial c79739
theorem h79239 : LOK Try.prog g79239 := Ax.partLQ (ql := quiets) (K := sks) (l := []) (m := [g79739]) mixed quiets_ok sks_ok trivial ⟨h79739, trivial⟩ c79239
theorem h78729 : LOK Try.prog g78729 := Ax.partLQ (ql := quiets) (K := sks) (l := []) (m := [g79239]) mixed quiets_ok sks_ok trivial ⟨h79239, trivial⟩ c78729
theorem h78219 : LOK Try.prog g78219 := Ax.partLQ (ql := quiets) (K := sks) (l := []) (m := [g78729]) mixed quiets_ok sks_ok trivial ⟨h78729, trivial⟩ c78219
theorem h77709 : LOK Try.prog g77709 := Ax.partLQ (ql := quiets) (K := sks) (l := []) (m := [g78219]) mixed quiets_ok sks_ok trivial ⟨h78219, trivial⟩ c77709
theorem o68419 : EntryOK Try.prog e68419 := Ax.partCQ (ql := quiets) (K := sks) (l := []) (m := [g68572, g71775, g75134, g77709]) mixed quiets_ok sks_ok trivial ⟨h68572, h71775, h75134, h77709, trivial⟩ c68419
theorem o68261 : EntryOK Try.prog e68261 := Ax.partCQ (ql := quiets) (K := sks) (l := [e68419]) (m := []) mixed quiets_ok sks_ok ⟨o68419, trivial⟩ trivial c68261
theorem h82672 : LOK Try.prog g82672 := Ax.partLQ (ql := quiets) (K := sks) (l := []) (m := []) mixed quiets_ok sks_ok trivial trivial c82672
theorem h82188 : LOK Try.prog g82188 := Ax.partLQ (ql := quiets) (K := sks) (l := []) (m := [g82672]) mixed quiets_ok sks_ok trivial ⟨h82672, trivial⟩ c82188
theorem h81704 : LOK Try.prog g81704 := Ax.partLQ (ql := quiets) (K := sks) (l := []) (m := [g82188]) mixed quiets_ok sks_ok trivial ⟨h82188, trivial⟩ c81704
theorem h81214 : LOK Try.prog g81214 := Ax.partLQ (ql := quiets) (K := sks) (l := []) (m := [g81704]) mixed quiets_ok sks_ok trivial ⟨h81704, trivial⟩ c81214
theorem h80730 : LOK Try.prog g80730 := Ax.partLQ (ql := quiets) (K := sks) (l := []) (m := [g81214]) mixed quiets_ok sks_ok trivial ⟨h81214, trivial⟩ c80730
theorem h80345 : LOK Try.prog g80345 := Ax.partLQ (ql := quiets) (K := sks) (l := []) (m := [g80730]) mixed quiets_ok sks_ok trivial ⟨h80730, trivial⟩ c80345
theorem h85499 : LOK Try.prog g85499 := Ax.partLQ (ql := quiets) (K := sks) (l := []) (m := []) mixed quiets_ok sks_ok trivial trivial c85499
theorem h85015 : LOK Try.prog g85015 := Ax.partLQ (ql := quiets) (K := sks) (l := []) (m := [g85499]) mixed quiets_ok sks_ok trivial ⟨h85499, trivial⟩ c85015
theorem h84531 : LOK Try.prog g84531 := Ax.partLQ (ql := quiets) (K := sks) (l := []) (m := [g85015]) mixed quiets_ok sks_ok trivial ⟨h85015, trivial⟩ c84531
theorem h84052 : LOK Try.prog g84052 := Ax.partLQ (ql := quiets) (K := sks) (l := []) (m := [g84531]) mixed quiets_ok sks_ok trivial ⟨h84531, trivial⟩ c84052
theorem h83568 : LOK Try.prog g83568 := Ax.partLQ (ql := quiets) (K := sks) (l := []) (m := [g84052]) mixed quiets_ok sks_ok trivial ⟨h84052, trivial⟩ c83568
theorem h83172 : LOK Try.prog g83172 := Ax.partLQ (ql := quiets) (K := sks) (l := []) (m := [g83568]) mixed quiets_ok sks_ok trivial ⟨h83568, trivial⟩ c83172
theorem h87790 : LOK Try.prog g87790 := Ax.partLQ (ql := quiets) (K := sks) (l := []) (m := []) mixed quiets_ok sks_ok trivial trivial c87790
theorem h87286 : LOK Try.prog g87286 := Ax.partLQ (ql := quiets) (K := sks) (l := []) (m := [g87790]) mixed quiets_ok sks_ok trivial ⟨h87790, trivial⟩ c87286
theorem h86782 : LOK Try.prog g86782 := Ax.partLQ (ql := quiets) (K := sks) (l := []) (m := [g87286]) mixed quiets_ok sks_ok trivial ⟨h87286, trivial⟩ c86782
theorem h86278 : LOK Try.prog g86278 := Ax.partLQ (ql := quiets) (K := sks) (l := []) (m := [g86782]) mixed quiets_ok sks_ok trivial ⟨h86782, trivial⟩ c86278
theorem o80251 : EntryOK Try.prog e80251 := Ax.partCQ (ql := quiets) (K := sks) (l := []) (m := [g80345, g83172, g86278]) mixed quiets_ok sks_ok trivial ⟨h80345, h83172, h86278, trivial⟩ c80251
theorem h88868 : LOK Try.prog g88868 := Ax.partLQ (ql := quiets) (K := sks) (l := []) (m := []) mixed quiets_ok sks_ok trivial trivial c88868
theorem h88412 : LOK Try.prog g88412 := Ax.partLQ (ql := quiets) (K := sks) (l := []) (m := [g88868]) mixed quiets_ok sks_ok trivial ⟨h88868, trivial⟩ c88412
theorem h89645 : LOK Try.prog g89645 := Ax.partLQ (ql := quiets) (K := sks) (l := []) (m := []) mixed quiets_ok sks_ok trivial trivial c89645
theorem h90825 : LOK Try.prog g90825 := Ax.partLQ (ql := quiets) (K := sks) (l := []) (m := []) mixed quiets_ok sks_ok trivial trivial c90825
theorem h90517 : LOK Try.prog g90517 := Ax.partLQ (ql := quiets) (K := sks) (l := []) (m := [g90825]) mixed quiets_ok sks_ok trivial ⟨h90825, trivial⟩ c90517
theorem h90209 : LOK Try.prog g90209 := Ax.partLQ (ql := quiets) (K := sks) (l := []) (m := [g90517]) mixed quiets_ok sks_ok trivial ⟨h90517, trivial⟩ c90209
theorem h91778 : LOK Try.prog g91778 := Ax.partLQ (ql := quiets) (K := sks) (l := []) (m := []) mixed quiets_ok sks_ok trivial trivial c91778
theorem h91394 : LOK Try.prog g91394 := Ax.partLQ (ql := quiets) (K := sks) (l := []) (m := [g91778]) mixed quiets_ok sks_ok trivial ⟨h91778, trivial⟩ c91394
theorem h92883 : LOK Try.prog g92883 := Ax.partLQ (ql := quiets) (K := sks) (l := []) (m := []) mixed quiets_ok sks_ok trivial trivial c92883
theorem h92575 : LOK Try.prog g92575 := Ax.partLQ (ql := quiets) (K := sks) (l := []) (m := [g92883]) mixed quiets_ok sks_ok trivial ⟨h92883, trivial⟩ c92575
theorem h92267 : LOK Try.prog g92267 := Ax.partLQ (ql := quiets) (K := sks) (l := []) (m := [g92575]) mixed quiets_ok sks_ok trivial ⟨h92575, trivial⟩ c92267
theorem h93912 : LOK Try.prog g93912 := Ax.partLQ (ql := quiets) (K := sks) (l := []) (m := []) mixed quiets_ok sks_ok trivial trivial c93912
theorem h93604 : LOK Try.prog g93604 := Ax.partLQ (ql := quiets) (K := sks) (l := []) (m := [g93912]) mixed quiets_ok sks_ok trivial ⟨h93912, trivial⟩ c93604
theorem h93296 : LOK Try.prog g93296 := Ax.partLQ (ql := quiets) (K := sks) (l := []) (m := [g93604]) mixed quiets_ok sks_ok trivial ⟨h93604, trivial⟩ c93296
theorem h92175 : LOK Try.prog g92175 := Ax.partLQ (ql := quiets) (K := sks) (l := []) (m := [g92267, g93296]) mixed quiets_ok sks_ok trivial ⟨h92267, h93296, trivial⟩ c92175
theorem h90117 : LOK Try.prog g90117 := Ax.partLQ (ql := quiets) (K := sks) (l := []) (m := [g90209, g91394, g92175]) mixed quiets_ok sks_ok trivial ⟨h90209, h91394, h92175, trivial⟩ c90117
theorem o88305 : EntryOK Try.prog e88305 := Ax.partCQ (ql := quiets) (K := sks) (l := []) (m := [g88412, g89645, g90117]) mixed quiets_ok sks_ok trivial ⟨h88412, h89645, h90117, trivial⟩ c88305
theorem h97801 : LOK Try.prog g97801 := Ax.partLQ (ql := quiets) (K := sks) (l := []) (m := []) mixed quiets_ok sks_ok trivial trivial c97801
theorem h97321 : LOK Try.prog g97321 := Ax.partLQ (ql := quiets) (K := sks) (l := []) (m := [g97801]) mixed quiets_ok sks_ok trivial ⟨h97801, trivial⟩ c97321
theorem h96841 : LOK Try.prog g96841 := Ax.partLQ (ql := quiets) (K := sks) (l := []) (m := [g97321]) mixed quiets_ok sks_ok trivial ⟨h97321, trivial⟩ c96841
theorem h96361 : LOK Try.prog g96361 := Ax.partLQ (ql := quiets) (K := sks) (l := []) (m := [g96841]) mixed quiets_ok sks_ok trivial ⟨h96841, trivial⟩ c96361
theorem h95873 : LOK Try.prog g95873 := Ax.partLQ (ql := quiets) (K := sks) (l := []) (m := [g96361]) mixed quiets_ok sks_ok trivial ⟨h96361, trivial⟩ c95873
theorem h95393 : LOK Try.prog g95393 := Ax.partLQ (ql := quiets) (K := sks) (l := []) (m := [g95873]) mixed quiets_ok sks_ok trivial ⟨h95873, trivial⟩ c95393
theorem h94913 : LOK Try.prog g94913 := Ax.partLQ (ql := quiets) (K := sks) (l := []) (m := [g95393]) mixed quiets_ok sks_ok trivial ⟨h95393, trivial⟩ c94913
theorem h102190 : LOK Try.prog g102190 := Ax.partLQ (ql := quiets) (K := sks) (l := []) (m := []) mixed quiets_ok sks_ok trivial trivial c102190
theorem h101731 : LOK Try.prog g101731 := Ax.partLQ (ql := quiets) (K := sks) (l := []) (m := [g102190]) mixed quiets_ok sks_ok trivial ⟨h102190, trivial⟩ c101731
theorem h101272 : LOK Try.prog g101272 := Ax.partLQ (ql := quiets) (K := sks) (l := []) (m := [g101731]) mixed quiets_ok sks_ok trivial ⟨h101731, trivial⟩ c101272
theorem h100813 : LOK Try.prog g100813 := Ax.partLQ (ql := quiets) (K := sks) (l := []) (m := [g101272]) mixed quiets_ok sks_ok trivial ⟨h101272, trivial⟩ c100813
theorem h100354 : LOK Try.prog g100354 := Ax.partLQ (ql := quiets) (K := sks) (l := []) (m := [g100813]) mixed quiets_ok sks_ok trivial ⟨h100813, trivial⟩ c100354
theorem h99900 : LOK Try.prog g99900 := Ax.partLQ (ql := quiets) (K := sks) (l := []) (m := [g100354]) mixed quiets_ok sks_ok trivial ⟨h100354, trivial⟩ c99900
theorem h99441 : LOK Try.prog g99441 := Ax.partLQ (ql := quiets) (K := sks) (l := []) (m := [g99900]) mixed quiets_ok sks_ok trivial ⟨h99900, trivial⟩ c99441
theorem h98982 : LOK Try.prog g98982 := Ax.partLQ (ql := quiets) (K := sks) (l := []) (m := [g99441]) mixed quiets_ok sks_ok trivial ⟨h99441, trivial⟩ c98982
theorem h98523 : LOK Try.prog g98523 := Ax.partLQ (ql := quiets) (K := sks) (l := []) (m := [g98982]) mixed quiets_ok sks_ok trivial ⟨h98982, trivial⟩ c98523
theorem h104970 : LOK Try.prog g104970 := Ax.partLQ (ql := quiets) (K := sks) (l := []) (m := []) mixed quiets_ok sks_ok trivial trivial c104970
theorem h104453 : LOK Try.prog g104453 := Ax.partLQ (ql := quiets) (K := sks) (l := []) (m := [g104970]) mixed quiets_ok sks_ok trivial ⟨h104970, trivial⟩ c104453
theorem h103936 : LOK Try.prog g103936 := Ax.partLQ (ql := quiets) (K := sks) (l := []) (m := [g104453]) mixed quiets_ok sks_ok trivial ⟨h104453, trivial⟩ c103936
theorem h103419 : LOK Try.prog g103419 := Ax.partLQ (ql := quiets) (K := sks) (l := []) (m := [g103936]) mixed quiets_ok sks_ok trivial ⟨h103936, trivial⟩ c103419
theorem h102902 : LOK Try.prog g102902 := Ax.partLQ (ql := quiets) (K := sks) (l := []) (m := [g103419]) mixed quiets_ok sks_ok trivial ⟨h103419, trivial⟩ c102902
theorem h107791 : LOK Try.prog g107791 := Ax.partLQ (ql := quiets) (K := sks) (l := []) (m := []) mixed quiets_ok sks_ok trivial trivial c107791
theorem h107285 : LOK Try.prog g107285 := Ax.partLQ (ql := quiets) (K := sks) (l := []) (m := [g107791]) mixed quiets_ok sks_ok trivial ⟨h107791, trivial⟩ c107285
theorem h106779 : LOK Try.prog g106779 := Ax.partLQ (ql := quiets) (K := sks) (l := []) (m := [g107285]) mixed quiets_ok sks_ok trivial ⟨h107285, trivial⟩ c106779
theorem h106273 : LOK Try.prog g106273 := Ax.partLQ (ql := quiets) (K := sks) (l := []) (m := [g106779]) mixed quiets_ok sks_ok trivial ⟨h106779, trivial⟩ c106273
theorem h105767 : LOK Try.prog g105767 := Ax.partLQ (ql := quiets) (K := sks) (l := []) (m := [g106273]) mixed quiets_ok sks_ok trivial ⟨h106273, trivial⟩ c105767
theorem h105488 : LOK Try.prog g105488 := Ax.partLQ (ql := quiets) (K := sks) (l := []) (m := [g105767]) mixed quiets_ok sks_ok trivial ⟨h105767, trivial⟩ c105488
theorem h98297 : LOK Try.prog g98297 := Ax.partLQ (ql := quiets) (K := sks) (l := []) (m := [g98523, g102902, g105488]) mixed quiets_ok sks_ok trivial ⟨h98523, h102902, h105488, trivial⟩ c98297
theorem h94444 : LOK Try.prog g94444 := Ax.partLQ (ql := quiets) (K := sks) (l := []) (m := [g94913, g98297]) mixed quiets_ok sks_ok trivial ⟨h94913, h98297, trivial⟩ c94444
theorem o94244 : EntryOK Try.prog e94244 := Ax.partCQ (ql := quiets) (K := sks) (l := []) (m := [g94444]) mixed quiets_ok sks_ok trivial ⟨h94444, trivial⟩ c94244
theorem o108310 : EntryOK Try.prog e108310 := o68261.up c108310
theorem h120863 : LOK Try.prog g120863 := Ax.partLQ (ql := quiets) (K := sks) (l := []) (m := []) mixed quiets_ok sks_ok trivial trivial c120863
theorem h120407 : LOK Try.prog g120407 := Ax.partLQ (ql := quiets) (K := sks) (l := []) (m := [g120863]) mixed quiets_ok sks_ok trivial ⟨h120863, trivial⟩ c120407
theorem o120301 : EntryOK Try.prog e120301 := Ax.partCQ (ql := quiets) (K := sks) (l := []) (m := [g120407]) mixed quiets_ok sks_ok trivial ⟨h120407, trivial⟩ c120301
theorem h121896 : LOK Try.prog g121896 := Ax.partLQ (ql := quiets) (K := sks) (l := []) (m := []) mixed quiets_ok sks_ok trivial trivial c121896
theorem h121440 : LOK Try.prog g121440 := Ax.partLQ (ql := quiets) (K := sks) (l := []) (m := [g121896]) mixed quiets_ok sks_ok trivial ⟨h121896, trivial⟩ c121440
theorem o121334 : EntryOK Try.prog e121334 := Ax.partCQ (ql := quiets) (K := sks) (l := []) (m := [g121440]) mixed quiets_ok sks_ok trivial ⟨h121440, trivial⟩ c121334
theorem h123077 : LOK Try.prog g123077 := Ax.partLQ (ql := quiets) (K := sks) (l := []) (m := []) mixed quiets_ok sks_ok trivial trivial c123077
theorem h122769 : LOK Try.prog g122769 := Ax.partLQ (ql := quiets) (K := sks) (l := []) (m := [g123077]) mixed quiets_ok sks_ok trivial ⟨h123077, trivial⟩ c122769
theorem h122461 : LOK Try.prog g122461 := Ax.partLQ (ql := quiets) (K := sks) (l := []) (m := [g122769]) mixed quiets_ok sks_ok trivial ⟨h122769, trivial⟩ c122461
theorem h124030 : LOK Try.prog g124030 := Ax.partLQ (ql := quiets) (K := sks) (l := []) (m := []) mixed quiets_ok sks_ok trivial trivial c124030
theorem h123646 : LOK Try.prog g123646 := Ax.partLQ (ql := quiets) (K := sks) (l := []) (m := [g124030]) mixed quiets_ok sks_ok trivial ⟨h124030, trivial⟩ c123646
theorem h125135 : LOK Try.prog g125135 := Ax.partLQ (ql := quiets) (K := sks) (l := []) (m := []) mixed quiets_ok sks_ok trivial trivial c125135
theorem h124827 : LOK Try.prog g124827 := Ax.partLQ (ql := quiets) (K := sks) (l := []) (m := [g125135]) mixed quiets_ok sks_ok trivial ⟨h125135, trivial⟩ c124827
theorem h124519 : LOK Try.prog g124519 := Ax.partLQ (ql := quiets) (K := sks) (l := []) (m := [g124827]) mixed quiets_ok sks_ok trivial ⟨h124827, trivial⟩ c124519
theorem h126164 : LOK Try.prog g126164 := Ax.partLQ (ql := quiets) (K := sks) (l := []) (m := []) mixed quiets_ok sks_ok trivial trivial c126164
theorem h125856 : LOK Try.prog g125856 := Ax.partLQ (ql := quiets) (K := sks) (l := []) (m := [g126164]) mixed quiets_ok sks_ok trivial ⟨h126164, trivial⟩ c125856
theorem h125548 : LOK Try.prog g125548 := Ax.partLQ (ql := quiets) (K := sks) (l := []) (m := [g125856]) mixed quiets_ok sks_ok trivial ⟨h125856, trivial⟩ c125548
theorem h127193 : LOK Try.prog g127193 := Ax.partLQ (ql := quiets) (K := sks) (l := []) (m := []) mixed quiets_ok sks_ok trivial trivial c127193
theorem h126885 : LOK Try.prog g126885 := Ax.partLQ (ql := quiets) (K := sks) (l := []) (m := [g127193]) mixed quiets_ok sks_ok trivial ⟨h127193, trivial⟩ c126885
theorem h126577 : LOK Try.prog g126577 := Ax.partLQ (ql := quiets) (K := sks) (l := []) (m := [g126885]) mixed quiets_ok sks_ok trivial ⟨h126885, trivial⟩ c126577
theorem h124427 : LOK Try.prog g124427 := Ax.partLQ (ql := quiets) (K := sks) (l := []) (m := [g124519, g125548, g126577]) mixed quiets_ok sks_ok trivial ⟨h124519, h125548, h126577, trivial⟩ c124427
theorem h123398 : LOK Try.prog g123398 := Ax.partLQ (ql := quiets) (K := sks) (l := []) (m := [g123646, g124427]) mixed quiets_ok sks_ok trivial ⟨h123646, h124427, trivial⟩ c123398
theorem o120300 : EntryOK Try.prog e120300 := Ax.partCQ (ql := quiets) (K := sks) (l := [e120301, e121334]) (m := [g122461, g123398]) mixed quiets_ok sks_ok ⟨o120301, o121334, trivial⟩ ⟨h122461, h123398, trivial⟩ c120300
theorem h130788 : LOK Try.prog g130788 := Ax.partLQ (ql := quiets) (K := sks) (l := []) (m := []) mixed quiets_ok sks_ok trivial trivial c130788
theorem h130312 : LOK Try.prog g130312 := Ax.partLQ (ql := quiets) (K := sks) (l := []) (m := [g130788]) mixed quiets_ok sks_ok trivial ⟨h130788, trivial⟩ c130312
theorem h129836 : LOK Try.prog g129836 := Ax.partLQ (ql := quiets) (K := sks) (l := []) (m := [g130312]) mixed quiets_ok sks_ok trivial ⟨h130312, trivial⟩ c129836
theorem h129360 : LOK Try.prog g129360 := Ax.partLQ (ql := quiets) (K := sks) (l := []) (m := [g129836]) mixed quiets_ok sks_ok trivial ⟨h129836, trivial⟩ c129360
theorem h128886 : LOK Try.prog g128886 := Ax.partLQ (ql := quiets) (K := sks) (l := []) (m := [g129360]) mixed quiets_ok sks_ok trivial ⟨h129360, trivial⟩ c128886
theorem h128410 : LOK Try.prog g128410 := Ax.partLQ (ql := quiets) (K := sks) (l := []) (m := [g128886]) mixed quiets_ok sks_ok trivial ⟨h128886, trivial⟩ c128410
theorem h127934 : LOK Try.prog g127934 := Ax.partLQ (ql := quiets) (K := sks) (l := []) (m := [g128410]) mixed quiets_ok sks_ok trivial ⟨h128410, trivial⟩ c127934
theorem h133863 : LOK Try.prog g133863 := Ax.partLQ (ql := quiets) (K := sks) (l := []) (m := []) mixed quiets_ok sks_ok trivial trivial c133863
theorem h133371 : LOK Try.prog g133371 := Ax.partLQ (ql := quiets) (K := sks) (l := []) (m := [g133863]) mixed quiets_ok sks_ok trivial ⟨h133863, trivial⟩ c133371
theorem h132879 : LOK Try.prog g132879 := Ax.partLQ (ql := quiets) (K := sks) (l := []) (m := [g133371]) mixed quiets_ok sks_ok trivial ⟨h133371, trivial⟩ c132879
theorem h132387 : LOK Try.prog g132387 := Ax.partLQ (ql := quiets) (K := sks) (l := []) (m := [g132879]) mixed quiets_ok sks_ok trivial ⟨h132879, trivial⟩ c132387
theorem h131895 : LOK Try.prog g131895 := Ax.partLQ (ql := quiets) (K := sks) (l := []) (m := [g132387]) mixed quiets_ok sks_ok trivial ⟨h132387, trivial⟩ c131895
theorem h131403 : LOK Try.prog g131403 := Ax.partLQ (ql := quiets) (K := sks) (l := []) (m := [g131895]) mixed quiets_ok sks_ok trivial ⟨h131895, trivial⟩ c131403
theorem h136410 : LOK Try.prog g136410 := Ax.partLQ (ql := quiets) (K := sks) (l := []) (m := []) mixed quiets_ok sks_ok trivial trivial c136410
theorem h135900 : LOK Try.prog g135900 := Ax.partLQ (ql := quiets) (K := sks) (l := []) (m := [g136410]) mixed quiets_ok sks_ok trivial ⟨h136410, trivial⟩ c135900
theorem h135390 : LOK Try.prog g135390 := Ax.partLQ (ql := quiets) (K := sks) (l := []) (m := [g135900]) mixed quiets_ok sks_ok trivial ⟨h135900, trivial⟩ c135390
theorem h134880 : LOK Try.prog g134880 := Ax.partLQ (ql := quiets) (K := sks) (l := []) (m := [g135390]) mixed quiets_ok sks_ok trivial ⟨h135390, trivial⟩ c134880
theorem h134370 : LOK Try.prog g134370 := Ax.partLQ (ql := quiets) (K := sks) (l := []) (m := [g134880]) mixed quiets_ok sks_ok trivial ⟨h134880, trivial⟩ c134370
theorem o127661 : EntryOK Try.prog e127661 := Ax.partCQ (ql := quiets) (K := sks) (l := []) (m := [g127934, g131403, g134370]) mixed quiets_ok sks_ok trivial ⟨h127934, h131403, h134370, trivial⟩ c127661
theorem o127515 : EntryOK Try.prog e127515 := Ax.partCQ (ql := quiets) (K := sks) (l := [e127661]) (m := []) mixed quiets_ok sks_ok ⟨o127661, trivial⟩ trivial c127515
theorem h137229 : LOK Try.prog g137229 := Ax.partLQ (ql := quiets) (K := sks) (l := []) (m := []) mixed quiets_ok sks_ok trivial trivial c137229
theorem h138217 : LOK Try.prog g138217 := Ax.partLQ (ql := quiets) (K := sks) (l := []) (m := []) mixed quiets_ok sks_ok trivial trivial c138217
theorem h138737 : LOK Try.prog g138737 := Ax.partLQ (ql := quiets) (K := sks) (l := []) (m := []) mixed quiets_ok sks_ok trivial trivial c138737
theorem h138736 : LOK Try.prog g138736 := Ax.partLQ (ql := quiets) (K := sks) (l := []) (m := [g138737]) mixed quiets_ok sks_ok trivial ⟨h138737, trivial⟩ c138736
theorem h137699 : LOK Try.prog g137699 := Ax.partLQ (ql := quiets) (K := sks) (l := []) (m := [g138217, g138736]) mixed quiets_ok sks_ok trivial ⟨h138217, h138736, trivial⟩ c137699
theorem o136922 : EntryOK Try.prog e136922 := Ax.partCQ (ql := quiets) (K := sks) (l := []) (m := [g137229, g137699]) mixed quiets_ok sks_ok trivial ⟨h137229, h137699, trivial⟩ c136922
theorem o139980 : EntryOK Try.prog e139980 := o94244.up c139980
theorem o154046 : EntryOK Try.prog e154046 := o68261.up c154046
theorem o166037 : EntryOK Try.prog e166037 := o120301.up c166037
theorem o167070 : EntryOK Try.prog e167070 := o121334.up c167070
theorem h168666 : LOK Try.prog g168666 := Ax.partLQ (ql := quiets) (K := sks) (l := []) (m := []) mixed quiets_ok sks_ok trivial trivial c168666
theorem h168210 : LOK Try.prog g168210 := Ax.partLQ (ql := quiets) (K := sks) (l := []) (m := [g168666]) mixed quiets_ok sks_ok trivial ⟨h168666, trivial⟩ c168210
theorem h169699 : LOK Try.prog g169699 := Ax.partLQ (ql := quiets) (K := sks) (l := []) (m := []) mixed quiets_ok sks_ok trivial trivial c169699
theorem h169243 : LOK Try.prog g169243 := Ax.partLQ (ql := quiets) (K := sks) (l := []) (m := [g169699]) mixed quiets_ok sks_ok trivial ⟨h169699, trivial⟩ c169243
theorem h170880 : LOK Try.prog g170880 := Ax.partLQ (ql := quiets) (K := sks) (l := []) (m := []) mixed quiets_ok sks_ok trivial trivial c170880
theorem h170572 : LOK Try.prog g170572 := Ax.partLQ (ql := quiets) (K := sks) (l := []) (m := [g170880]) mixed quiets_ok sks_ok trivial ⟨h170880, trivial⟩ c170572
theorem h170264 : LOK Try.prog g170264 := Ax.partLQ (ql := quiets) (K := sks) (l := []) (m := [g170572]) mixed quiets_ok sks_ok trivial ⟨h170572, trivial⟩ c170264
theorem h171833 : LOK Try.prog g171833 := Ax.partLQ (ql := quiets) (K := sks) (l := []) (m := []) mixed quiets_ok sks_ok trivial trivial c171833
theorem h171449 : LOK Try.prog g171449 := Ax.partLQ (ql := quiets) (K := sks) (l := []) (m := [g171833]) mixed quiets_ok sks_ok trivial ⟨h171833, trivial⟩ c171449
theorem h172938 : LOK Try.prog g172938 := Ax.partLQ (ql := quiets) (K := sks) (l := []) (m := []) mixed quiets_ok sks_ok trivial trivial c172938
theorem h172630 : LOK Try.prog g172630 := Ax.partLQ (ql := quiets) (K := sks) (l := []) (m := [g172938]) mixed quiets_ok sks_ok trivial ⟨h172938, trivial⟩ c172630
theorem h172322 : LOK Try.prog g172322 := Ax.partLQ (ql := quiets) (K := sks) (l := []) (m := [g172630]) mixed quiets_ok sks_ok trivial ⟨h172630, trivial⟩ c172322
theorem h173967 : LOK Try.prog g173967 := Ax.partLQ (ql := quiets) (K := sks) (l := []) (m := []) mixed quiets_ok sks_ok trivial trivial c173967
theorem h173659 : LOK Try.prog g173659 := Ax.partLQ (ql := quiets) (K := sks) (l := []) (m := [g173967]) mixed quiets_ok sks_ok trivial ⟨h173967, trivial⟩ c173659
theorem h173351 : LOK Try.prog g173351 := Ax.partLQ (ql := quiets) (K := sks) (l := []) (m := [g173659]) mixed quiets_ok sks_ok trivial ⟨h173659, trivial⟩ c173351
theorem h174996 : LOK Try.prog g174996 := Ax.partLQ (ql := quiets) (K := sks) (l := []) (m := []) mixed quiets_ok sks_ok trivial trivial c174996
theorem h174688 : LOK Try.prog g174688 := Ax.partLQ (ql := quiets) (K := sks) (l := []) (m := [g174996]) mixed quiets_ok sks_ok trivial ⟨h174996, trivial⟩ c174688
theorem h174380 : LOK Try.prog g174380 := Ax.partLQ (ql := quiets) (K := sks) (l := []) (m := [g174688]) mixed quiets_ok sks_ok trivial ⟨h174688, trivial⟩ c174380
theorem h172230 : LOK Try.prog g172230 := Ax.partLQ (ql := quiets) (K := sks) (l := []) (m := [g172322, g173351, g174380]) mixed quiets_ok sks_ok trivial ⟨h172322, h173351, h174380, trivial⟩ c172230
theorem h171201 : LOK Try.prog g171201 := Ax.partLQ (ql := quiets) (K := sks) (l := []) (m := [g171449, g172230]) mixed quiets_ok sks_ok trivial ⟨h171449, h172230, trivial⟩ c171201
theorem o166036 : EntryOK Try.prog e166036 := Ax.partCQ (ql := quiets) (K := sks) (l := [e166037, e167070]) (m := [g168210, g169243, g170264, g171201]) mixed quiets_ok sks_ok ⟨o166037, o167070, trivial⟩ ⟨h168210, h169243, h170264, h171201, trivial⟩ c166036
theorem o175318 : EntryOK Try.prog e175318 := o59977.up c175318
theorem h182137 : LOK Try.prog g182137 := Ax.partLQ (ql := quiets) (K := sks) (l := []) (m := []) mixed quiets_ok sks_ok trivial trivial c182137
theorem h181657 : LOK Try.prog g181657 := Ax.partLQ (ql := quiets) (K := sks) (l := []) (m := [g182137]) mixed quiets_ok sks_ok trivial ⟨h182137, trivial⟩ c181657
theorem h181177 : LOK Try.prog g181177 := Ax.partLQ (ql := quiets) (K := sks) (l := []) (m := [g181657]) mixed quiets_ok sks_ok trivial ⟨h181657, trivial⟩ c181177
theorem h180701 : LOK Try.prog g180701 := Ax.partLQ (ql := quiets) (K := sks) (l := []) (m := [g181177]) mixed quiets_ok sks_ok trivial ⟨h181177, trivial⟩ c180701
theorem h180221 : LOK Try.prog g180221 := Ax.partLQ (ql := quiets) (K := sks) (l := []) (m := [g180701]) mixed quiets_ok sks_ok trivial ⟨h180701, trivial⟩ c180221
theorem h184166 : LOK Try.prog g184166 := Ax.partLQ (ql := quiets) (K := sks) (l := []) (m := []) mixed quiets_ok sks_ok trivial trivial c184166
theorem h183670 : LOK Try.prog g183670 := Ax.partLQ (ql := quiets) (K := sks) (l := []) (m := [g184166]) mixed quiets_ok sks_ok trivial ⟨h184166, trivial⟩ c183670
theorem h183174 : LOK Try.prog g183174 := Ax.partLQ (ql := quiets) (K := sks) (l := []) (m := [g183670]) mixed quiets_ok sks_ok trivial ⟨h183670, trivial⟩ c183174
theorem h182678 : LOK Try.prog g182678 := Ax.partLQ (ql := quiets) (K := sks) (l := []) (m := [g183174]) mixed quiets_ok sks_ok trivial ⟨h183174, trivial⟩ c182678
theorem o179995 : EntryOK Try.prog e179995 := Ax.partCQ (ql := quiets) (K := sks) (l := []) (m := [g180221, g182678]) mixed quiets_ok sks_ok trivial ⟨h180221, h182678, trivial⟩ c179995
theorem h184723 : LOK Try.prog g184723 := Ax.partLQ (ql := quiets) (K := sks) (l := []) (m := []) mixed quiets_ok sks_ok trivial trivial c184723
theorem h185242 : LOK Try.prog g185242 := Ax.partLQ (ql := quiets) (K := sks) (l := []) (m := []) mixed quiets_ok sks_ok trivial trivial c185242
theorem h185762 : LOK Try.prog g185762 := Ax.partLQ (ql := quiets) (K := sks) (l := []) (m := []) mixed quiets_ok sks_ok trivial trivial c185762
theorem h186281 : LOK Try.prog g186281 := Ax.partLQ (ql := quiets) (K := sks) (l := []) (m := []) mixed quiets_ok sks_ok trivial trivial c186281
theorem h187460 : LOK Try.prog g187460 := Ax.partLQ (ql := quiets) (K := sks) (l := []) (m := []) mixed quiets_ok sks_ok trivial trivial c187460
theorem h187148 : LOK Try.prog g187148 := Ax.partLQ (ql := quiets) (K := sks) (l := []) (m := [g187460]) mixed quiets_ok sks_ok trivial ⟨h187460, trivial⟩ c187148
theorem h186836 : LOK Try.prog g186836 := Ax.partLQ (ql := quiets) (K := sks) (l := []) (m := [g187148]) mixed quiets_ok sks_ok trivial ⟨h187148, trivial⟩ c186836
theorem h188413 : LOK Try.prog g188413 := Ax.partLQ (ql := quiets) (K := sks) (l := []) (m := []) mixed quiets_ok sks_ok trivial trivial c188413
theorem h188021 : LOK Try.prog g188021 := Ax.partLQ (ql := quiets) (K := sks) (l := []) (m := [g188413]) mixed quiets_ok sks_ok trivial ⟨h188413, trivial⟩ c188021
theorem o186750 : EntryOK Try.prog e186750 := Ax.partCQ (ql := quiets) (K := sks) (l := []) (m := [g186836, g188021]) mixed quiets_ok sks_ok trivial ⟨h186836, h188021, trivial⟩ c186750
theorem o184672 : EntryOK Try.prog e184672 := Ax.partCQ (ql := quiets) (K := sks) (l := [e186750]) (m := [g184723, g185242, g185762, g186281]) mixed quiets_ok sks_ok ⟨o186750, trivial⟩ ⟨h184723, h185242, h185762, h186281, trivial⟩ c184672

end Go.Proofs.Ytljepknbeaopjaa.leastNames

set_option linter.unusedSimpArgs false
set_option linter.unusedVariables false
namespace Go.Proofs.Ytljepknbeaopjaa.leastNames
open Go.Proofs Go.Proofs.Ytljepknbeaopjaa Ax

set_option maxRecDepth 1000000 in
theorem closed  : Ax.isTrue (Ax.callR Try.prog quiets sks [e3, e10205, e13595, e18829, e21184, e26395, e32655, e32917, e35536, e36849, e55593, e59977, e64654, e68261, e80251, e88305, e94244, e108310, e120300, e127515, e136922, e139980, e154046, e166036, e175318, e179995, e184672] [g31657, g32176, g56968, g57913] (.func 3) [] Ax.h0) = true := by kernel_rfl
theorem walk_LeastNames  (w : World)  : Calls Try.prog 3 #[] w fun e w' => e = .returned (.bool true) ∧ Go.RowKit.Below w.heap.size w w' :=
  Ax.run_argsR (ql := quiets) (l := [e3, e10205, e13595, e18829, e21184, e26395, e32655, e32917, e35536, e36849, e55593, e59977, e64654, e68261, e80251, e88305, e94244, e108310, e120300, e127515, e136922, e139980, e154046, e166036, e175318, e179995, e184672]) (m := [g31657, g32176, g56968, g57913]) mixed quiets_ok sks_ok ⟨o3, o10205, o13595, o18829, o21184, o26395, o32655, o32917, o35536, o36849, o55593, o59977, o64654, o68261, o80251, o88305, o94244, o108310, o120300, o127515, o136922, o139980, o154046, o166036, o175318, o179995, o184672, trivial⟩ ⟨h31657, h32176, h56968, h57913, trivial⟩ .nil (closed ) w (tabs_ok w)

end Go.Proofs.Ytljepknbeaopjaa.leastNames

set_option linter.unusedSimpArgs false
set_option linter.unusedVariables false
namespace Go.Proofs.Ytljepknbeaopjaa.leastNames
open Go.ChangeShapes Go.WideShapes Go.ChangeAt Go.RowKit Go.Joins
open Go.ChangeMaps (open_string shut_string)

theorem own : ownKnob Try.prog.godebug = none := by kernel_rfl
theorem laidOut : laidOutB Try.prog = true := by kernel_rfl

set_option maxRecDepth 100000 in
theorem lifted (os : Os) (started : os.Started) (H : Type) (enc : TypeId × Value → H) :
    ReturnsInHanded {} Try.checked os 3 .any (Rows.leastNamesSpec.pre6 enc Try.prog Try.f3 Rows.leastNamesRow.domain false) (Rows.leastNamesSpec.post enc Try.prog Try.f3 false true false false) := by
  refine returnsInHanded_of_change (C := Try.checked) own started (by kernel_rfl) Try.func3
    (ChangeSpec.witness6 (enc := enc) (C := Try.checked) false ⟨#[], #[], []⟩ 8 (by kernel_rfl) (by kernel_rfl) (by kernel_rfl) (by kernel_rfl)) ?_
  intro W base args ds gs before hval0 hW hcnd _
  have hval : ∀ (j : Nat) t v, Try.f3.params[j]? = some t → args[j]? = some v → Value.okWide Try.prog W .any base t v := hval0
  have hW' := hW
  obtain ⟨p, q, hA0, hV, rfl, hfz, hnd⟩ := hW
  have hA : DataW.TrodAll enc Try.prog W 0 (fun _ => true) true Try.f3.params.toList args.toList ds p := hA0
  obtain ⟨rfl, rfl, rfl⟩ := trodAll_none hA
  obtain ⟨rfl, rfl⟩ := trodVars_none hV
  clear hA0 hval0
  refine (walk_LeastNames  W ).mono fun e W' ⟨he, bel⟩ => ?_
  subst he
  exact ⟨_, rfl, _, _, _, [], _, [], hW', trodAll_mk1 (shut_bool Try.underlying4 _), trodAll_mk0, rfl, bel.frame _, fun h => by cases h⟩

theorem proved : Rows.LeastNamesSaid :=
  OpenClaim.holds_of_wide 3 Try.f3 rfl rfl rfl rfl rfl rfl rfl ⟨rfl, rfl, rfl, rfl, rfl⟩ rfl rfl rfl rfl rfl (by kernel_rfl) Try.func3 (by kernel_rfl)
    (of_decide_eq_true (by kernel_rfl)) (by unfold Func.isWrapper; first | (rw [if_pos (by decide +kernel)]; kernel_rfl) | (rw [if_neg (by decide +kernel)]; exact ⟨rfl, rfl⟩))
    (fun os started H enc _ => lifted os started H enc)
#print axioms proved
end Go.Proofs.Ytljepknbeaopjaa.leastNames
