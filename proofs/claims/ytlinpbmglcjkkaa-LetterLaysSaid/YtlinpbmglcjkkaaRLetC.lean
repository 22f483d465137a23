/-
  The document's own answers for ReadPledge of layer 14. No condition.
-/
import Derived.Test.YtlinpbmglcjkkaaRLetB
namespace Go.Proofs.Ytlinpbmglcjkkaa.RLet
open Go.RowKit Mur Prt Lanes Cod Let
set_option maxRecDepth 100000

def zPledge : List Value := [.string ⟨#[]⟩]
theorem zPledge_len : zPledge.length = 1 := rfl
theorem zPledge_one : Hold.Single zPledge := by simp [Hold.Single, zPledge, Value.oneCell']
theorem zero_zPledge : (Try.prog.info? 36).map (fun i => (i.zero, i.size)) = some (some (.agg zPledge.toArray), zPledge.length) := by kernel_rfl
theorem row_zPledge : Hold.TyRow Try.prog 36 1 := ⟨_, Try.underlying36, rfl, by kernel_rfl⟩

set_option maxHeartbeats 1600000 in
theorem readPledge_any (s : ByteArray) (V : ByteArray) (E : Int) (w : World) (hV : V = okB (fun x => x) (readPledge s.data.toList)) (hE : E = errV (readPledge s.data.toList)) :
    Calls Try.prog 24 #[.string s] w fun e w' => e = .returned (.tuple #[.agg #[.string V], .int .i64 E]) ∧ Below w.heap.size w w' := by
  have hsl : s.data.toList.length = s.size := rfl
  have HM := Lib.hid (Hold.Hld.start w)
  by_cases h : s.size = 32
  · rw [readPledge, if_pos (by rw [hsl]; exact h)] at hV hE
    obtain rfl : V = s := by rw [hV]; cases s; rfl
    obtain rfl : E = 0 := hE
    have hd : ((V.size : Int) != 32) = false := by simp; omega
    clear hV h hsl
    go_enter Try.func24, Try.ntmps24
    go_wp2_with ((first
      | (with_reducible refine Hold.alloc HM.out rfl rfl zPledge zero_zPledge ?_; clear HM; intro b0 w HM; simp only [List.nil_append] at HM; replace HM := Lib.hid HM)
      | (refine Hold.store HM.out 0 (v' := [.string V]) rfl rfl rfl rfl rfl (by simp [zPledge_len]) (Hold.lay_all rfl) (by simp [Hold.Single, Value.oneCell']) row_zPledge ?_; clear HM; intro w HM; simp only [List.set_cons_zero] at HM; replace HM := Lib.hid HM)))

    refine bodyPost_ret (Hold.resultsCT HM.out 0 rfl _ rfl rfl rfl row_zPledge) rfl ?_
    exact ⟨rfl, HM.out.below⟩
  · rw [readPledge, if_neg (by rw [hsl]; exact h)] at hV hE
    obtain rfl : V = ⟨#[]⟩ := hV
    obtain rfl : E = 3 := hE
    have hd : ((s.size : Int) != 32) = true := by simp; omega
    clear h hsl
    go_enter Try.func24, Try.ntmps24
    go_wp2_with ((first
      | (with_reducible refine Hold.alloc HM.out rfl rfl zPledge zero_zPledge ?_; clear HM; intro b0 w HM; simp only [List.nil_append] at HM; replace HM := Lib.hid HM)
      | (with_reducible refine Hold.build (t := 36) (parts := #[]) (cs := zPledge) rfl rfl ?_ ?_; focus (kernel_rfl))
      | (with_reducible refine Hold.store HM.out 0 (v' := zPledge) rfl rfl rfl rfl rfl (by rw [Nat.zero_add]; exact Nat.le_refl _) (Hold.lay_all rfl) (zPledge_one) (by rw [zPledge_len]; exact row_zPledge) ?_; clear HM; intro w HM; simp only [List.set_cons_zero] at HM; replace HM := Lib.hid HM)))

    refine bodyPost_ret (Hold.resultsCT HM.out 0 rfl _ rfl rfl rfl (by rw [zPledge_len]; exact row_zPledge)) rfl ?_
    exact ⟨rfl, HM.out.below⟩

end Go.Proofs.Ytlinpbmglcjkkaa.RLet
