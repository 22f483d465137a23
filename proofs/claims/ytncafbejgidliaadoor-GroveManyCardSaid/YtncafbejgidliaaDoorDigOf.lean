/-
  The function Of of package digest answers what the plain mathematics of the text Sha says, and leaves all memory that was there as it was. Conditions: the text takes no more than the reach of the form, the constant table lies as the program's text lays it.
-/
import Derived.Test.YtncafbejgidliaaDoorDigFinish
namespace Go.Proofs.YtncafbejgidliaaDoor.Sha
open Go.RowKit Mur
set_option maxRecDepth 100000

theorem start_ok : start.Ok := by unfold S8.Ok start; decide

set_option maxHeartbeats 400000 in
theorem of_any (s : ByteArray) (w : World) (hs : s.size ≤ 140737488351232) (hk : Consts w) :
    Calls Tryd.prog 56 #[.string s] w fun e w' => e = .returned (.string ⟨(sha s.data.toList).toArray⟩) ∧ Below w.heap.size w w' := by
  have hc : ∀ u, Consts u → Calls Tryd.prog 62 #[start.val, .string s, .int .u64 (s.size : Int)] u fun e w' => e = .returned (.string ⟨(sha s.data.toList).toArray⟩) ∧ Below u.heap.size u w' := fun u hu => finish_any start s s.size u start_ok hs hu
  have HC := Lib.hid hc
  have HK := Lib.hid hk
  clear hc hk
  go_enter Tryd.func56, Tryd.ntmps56
  go_wp2_with fail
  refine (start_any _).mono ?_
  rintro e w1 ⟨rfl, hb1⟩
  have HB := Lib.hid hb1
  clear hb1
  have h0 : 0 ≤ (s.size : Int) := by omega
  go_wp2_with fail
  refine (HC.out _ (HK.out.below HK.out.1 HB.out)).mono ?_
  rintro e w2 ⟨rfl, hb2⟩
  go_wp2
  go_ret
  exact ⟨rfl, HB.out.trans (hb2.mono HB.out.size)⟩

end Go.Proofs.YtncafbejgidliaaDoor.Sha
