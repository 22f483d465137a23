/-
  The statements' own real book of layer 17. No condition.
-/
import Derived.Test.YtolmfimpaofefaaGreatDoorPadC
namespace Go.Proofs.YtolmfimpaofefaaGreatDoor.Pad
open Go.RowKit Mur Prt Lanes Tap Bkl Bkm Rec Cel Bkr Bkb
set_option maxRecDepth 100000
set_option linter.unusedSimpArgs false

theorem built_shape : Tryz.prog.built 26 [(0, .int .i64 2), (1, .int .i64 1)] = some #[.int .i64 2, .int .i64 1] := by kernel_rfl
theorem r0_is : r0 = newB false (⟨#[115, 101, 101, 100]⟩ : ByteArray).data.toList (toC []) := rfl

set_option maxHeartbeats 1600000 in
theorem real_any (w : World) : Calls Tryz.prog 20 #[] w fun e w' => ∃ v, e = .returned (.agg v.toArray) ∧ BkR w' r0 v (fun k => w.heap.size ≤ k) ∧ Below w.heap.size w w' := by
  obtain ⟨w0, hw0⟩ : ∃ w0, w0 = w := ⟨w, rfl⟩
  subst hw0
  have hbs := built_shape
  have R1 := Lib.hid (fun u => new_any false ⟨#[115, 101, 101, 100]⟩ [] 0 none 0 r0 u r0_is (CelR.none _ _) rfl (by decide) (by decide))
  have HM := Lib.hid (Hold.Hld.start w0)
  have HSZ := Lib.hid (fun (u : World) (hu : Below w0.heap.size w0 u) (k : Nat) (hk : u.heap.size ≤ k) => (Nat.le_trans hu.size hk : w0.heap.size ≤ k))
  go_enter Tryz.func20, Tryz.ntmps20
  go_upto_region 1 with ((first
    | ((with_reducible refine Hold.alloc HM.out rfl rfl zeroBk zero_bk ?_); clear HM; intro b1 w HM; simp only [List.nil_append, List.cons_append] at HM; replace HM := Lib.hid HM)))
  go_wp2_with ((first
    | ((with_reducible refine Hold.allocK HM.out rfl rfl zeroBk zero_bk ?_); clear HM; intro b2 w hn hb HM; simp only [List.nil_append, List.cons_append] at HM; replace HM := Lib.hid HM; replace HV := Lib.hid (HV.out.allocA (t := 30) (z := zeroBk) hn hb); simp only [List.cons_append, List.nil_append] at HV; clear hn hb)
    | ((refine Hold.build (t := 26) (parts := #[(0, .const (.int .i64 2)), (1, .const (.int .i64 1))]) (cs := shV) rfl rfl ?_ ?_); focus (exact built_shape))
    | ((with_reducible refine (R1.out _).mono ?_); rintro e wx ⟨v0, rfl, hv, hb⟩; have HV := Lib.hid (hv.mono (A' := In (fun k => w0.heap.size ≤ k) [⟨b1, 30, zeroBk⟩]) (fun k _ hk => ⟨HSZ.out _ HM.out.below k hk, fun x hx e => by have := (HM.out.whole x hx).lt; omega⟩)); replace HM := Lib.hid (HM.out.next hb); clear hv hb)
    | ((with_reducible refine Hold.storeK HM.out 1 (v' := v0) rfl rfl rfl rfl rfl (bkFits HV.out.len zero_len) (bkLaid HV.out.len zero_len) HV.out.one (bkRowOf HV.out.len) ?_); clear HM; intro w hbt HM; simp only [List.set_cons_zero, List.set_cons_succ] at HM; replace HM := Lib.hid HM; replace HV := Lib.hid (HV.out.storedA (i := 1) (z' := v0) rfl hbt); simp only [List.set_cons_zero, List.set_cons_succ] at HV; clear hbt)
    | (with_reducible refine Hold.load HM.out 1 (cs := v0) rfl rfl rfl rfl (Hold.Part.all _) (bkRowOf HV.out.len) ?_)
    | ((with_reducible refine Hold.storeK HM.out 0 (v' := v0) rfl rfl rfl rfl rfl (bkFits HV.out.len zero_len) (bkLaid HV.out.len zero_len) HV.out.one (bkRowOf HV.out.len) ?_); clear HM; intro w hbt HM; simp only [List.set_cons_zero, List.set_cons_succ] at HM; replace HM := Lib.hid HM; replace HV := Lib.hid (HV.out.storedA (i := 0) (z' := v0) rfl hbt); clear hbt)))
  refine bodyPost_ret (Hold.results1 HM.out 0 rfl _ rfl rfl (bkRowOf HV.out.len)) rfl ?_
  exact ⟨v0, rfl, HV.out.doneA, HM.out.below⟩
end Go.Proofs.YtolmfimpaofefaaGreatDoor.Pad
