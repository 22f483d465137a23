/-
  FrameSays: what anything that a slot says is as bytes, what any bytes say, and which bit was turned, are what the document's own answers say: for whatever a slot says, any two texts and any four numbers the law answers true and changes nothing that was there. Condition: the listed tables hold what the program lays there.
-/
import Derived.Test.YtlodgomjlkpdhaaGreatDoorFrX
import Derived.Test.YtlodgomjlkpdhaaGreatDoorFrK
import Derived.Test.YtlodgomjlkpdhaaGreatDoorFrOz
import Derived.Test.YtlodgomjlkpdhaaGreatDoorFrlz
import Derived.Test.YtlodgomjlkpdhaaGreatDoorRFrR
namespace Go.Proofs.YtlodgomjlkpdhaaGreatDoor.LawFSy
open Go.ChangeShapes Go.WideShapes Go.ChangeAt Go.RowKit Mur Prt Lanes Tap Cel Frm
open Go.ChangeMaps (open_string shut_string)
set_option maxRecDepth 100000
set_option linter.unusedSimpArgs false

set_option maxHeartbeats 25600000 in
theorem walk (con : Con) (x : SayB) (s0 s1 : ByteArray) (n0 n1 n2 n3 : Int) (wz : World) (sm : Small x) (z0 : s0.size ≤ 140737488351232) (z1 : s1.size ≤ 140737488351232) (h0 : InR n0) (h1 : InR n1) (h2 : InR n2) (_ : InR n3) (hl : Laid wz) :
    Calls Tryz.prog 3 #[.agg (sayV x).toArray, .agg #[.string s0, .string s1], .agg #[.int .i64 n0, .int .i64 n1, .int .i64 n2, .int .i64 n3]] wz fun e w' => e = .returned (.bool true) ∧ Below wz.heap.size wz w' := by
  have RA := Lib.hid (fun u (hu : Below wz.heap.size wz u) => awake_any con u (hl.below hu))
  have HM := Lib.hid (Hold.Hld.start wz)
  have hws : wrap64 ((s0.size : Int) + (s1.size : Int)) = (s0.size : Int) + (s1.size : Int) := IntWalk.wrap64_in _ (by omega)
  have hwx : wrap64 ((x.text.size : Int) + (x.sig.size : Int)) = (x.text.size : Int) + (x.sig.size : Int) := IntWalk.wrap64_in _ (by have := sm.text; have := sm.sig; omega)
  have hx2 : (sayV x)[2]? = some (.string x.text) := rfl
  have hx3 : (sayV x)[3]? = some (.string x.sig) := rfl
  have HX := Lib.hid (And.intro hx2 hx3)
  clear hx2 hx3
  by_cases hg : 3000 < s0.size + s1.size
  · have d1 : decide (3000 < (s0.size : Int) + (s1.size : Int)) = true := decide_eq_true (by omega)
    have d2 : decide (3000 < s0.size + s1.size) = true := decide_eq_true hg
    clear hg sm z0 z1 h0 h1 h2 hl hwx
    go_enter Tryz.func3, Tryz.ntmps3
    go_upto_region 1 with ((first
      | ((with_reducible refine Hold.box (t := 23) HM.out rfl rfl rfl ?_); clear HM; intro bx w HM; simp only [List.nil_append, List.cons_append] at HM; replace HM := Lib.hid HM)
      | ((with_reducible refine Hold.box (t := 24) HM.out rfl rfl rfl ?_); clear HM; intro bt w HM; simp only [List.nil_append, List.cons_append] at HM; replace HM := Lib.hid HM)
      | ((with_reducible refine Hold.box (t := 25) HM.out rfl rfl rfl ?_); clear HM; intro bn w HM; simp only [List.nil_append, List.cons_append] at HM; replace HM := Lib.hid HM)))
    refine Steady.region 5 (by kernel_rfl) (by kernel_rfl) (fun u => Below w.heap.size w u) (Below.refl _ _).drew ?_
    simp only [List.take_succ_cons, List.take_zero, List.drop_succ_cons, List.drop_zero]
    refine Steady.take ?_ rfl (by intro u hu; go_simp; with_reducible rfl) ?_
    simp only [Act.put, List.setIfInBounds_toArray, List.set_cons_zero, List.set_cons_succ]
    refine Steady.take (.string s0) rfl (fun u hu => Hold.load1_run (HM.out.next hu) 1 rfl rfl rfl (rfl) (Frm.cellStr)) ?_
    simp only [Act.put, List.setIfInBounds_toArray, List.set_cons_zero, List.set_cons_succ]
    refine Steady.take ?_ rfl (by intro u hu; go_simp; with_reducible rfl) ?_
    simp only [Act.put, List.setIfInBounds_toArray, List.set_cons_zero, List.set_cons_succ]
    refine Steady.take (.string s1) rfl (fun u hu => Hold.load1_run (HM.out.next hu) 1 rfl rfl rfl (rfl) (Frm.cellStr)) ?_
    simp only [Act.put, List.setIfInBounds_toArray, List.set_cons_zero, List.set_cons_succ]
    refine Steady.take ?_ rfl (by intro u hu; go_simp; with_reducible rfl) ?_
    simp only [Act.put, List.setIfInBounds_toArray, List.set_cons_zero, List.set_cons_succ]
    refine Steady.nil ?_
    intro w1 hb1
    replace HM := Lib.hid (HM.out.next hb1)
    clear hb1
    go_wp2_with ((first
      | ((with_reducible refine (RA.out _ HM.out.below).mono ?_); rintro e w ⟨rfl, hb⟩; replace HM := Lib.hid (HM.out.next hb); clear hb)))
    go_ret
    exact ⟨rfl, HM.out.below⟩
  have d1 : decide (3000 < (s0.size : Int) + (s1.size : Int)) = false := decide_eq_false (by omega)
  have d2 : decide (3000 < s0.size + s1.size) = false := decide_eq_false hg
  by_cases hg2 : 3000 < x.text.size + x.sig.size
  · have d3 : decide (3000 < (x.text.size : Int) + (x.sig.size : Int)) = true := decide_eq_true (by omega)
    have d4 : decide (3000 < x.text.size + x.sig.size) = true := decide_eq_true hg2
    clear hg hg2 sm z0 z1 h0 h1 h2 hl
    go_enter Tryz.func3, Tryz.ntmps3
    go_upto_region 1 with ((first
      | ((with_reducible refine Hold.box (t := 23) HM.out rfl rfl rfl ?_); clear HM; intro bx w HM; simp only [List.nil_append, List.cons_append] at HM; replace HM := Lib.hid HM)
      | ((with_reducible refine Hold.box (t := 24) HM.out rfl rfl rfl ?_); clear HM; intro bt w HM; simp only [List.nil_append, List.cons_append] at HM; replace HM := Lib.hid HM)
      | ((with_reducible refine Hold.box (t := 25) HM.out rfl rfl rfl ?_); clear HM; intro bn w HM; simp only [List.nil_append, List.cons_append] at HM; replace HM := Lib.hid HM)))
    refine Steady.region 5 (by kernel_rfl) (by kernel_rfl) (fun u => Below w.heap.size w u) (Below.refl _ _).drew ?_
    simp only [List.take_succ_cons, List.take_zero, List.drop_succ_cons, List.drop_zero]
    refine Steady.take ?_ rfl (by intro u hu; go_simp; with_reducible rfl) ?_
    simp only [Act.put, List.setIfInBounds_toArray, List.set_cons_zero, List.set_cons_succ]
    refine Steady.take (.string s0) rfl (fun u hu => Hold.load1_run (HM.out.next hu) 1 rfl rfl rfl (rfl) (Frm.cellStr)) ?_
    simp only [Act.put, List.setIfInBounds_toArray, List.set_cons_zero, List.set_cons_succ]
    refine Steady.take ?_ rfl (by intro u hu; go_simp; with_reducible rfl) ?_
    simp only [Act.put, List.setIfInBounds_toArray, List.set_cons_zero, List.set_cons_succ]
    refine Steady.take (.string s1) rfl (fun u hu => Hold.load1_run (HM.out.next hu) 1 rfl rfl rfl (rfl) (Frm.cellStr)) ?_
    simp only [Act.put, List.setIfInBounds_toArray, List.set_cons_zero, List.set_cons_succ]
    refine Steady.take ?_ rfl (by intro u hu; go_simp; with_reducible rfl) ?_
    simp only [Act.put, List.setIfInBounds_toArray, List.set_cons_zero, List.set_cons_succ]
    refine Steady.nil ?_
    intro w1 hb1
    replace HM := Lib.hid (HM.out.next hb1)
    clear hb1
    go_upto_region 2 with fail
    obtain ⟨hx2, hx3⟩ := HX.out
    have q2 : w1.cell? ⟨bx, 2, none⟩ = some (.string x.text) := (HM.out.at 0 rfl).row.cell hx2
    have q3 : w1.cell? ⟨bx, 3, none⟩ = some (.string x.sig) := (HM.out.at 0 rfl).row.cell hx3
    clear hx2 hx3
    go_wp2_with ((first
      | ((with_reducible refine (RA.out _ HM.out.below).mono ?_); rintro e w ⟨rfl, hb⟩; replace HM := Lib.hid (HM.out.next hb); clear hb q2 q3)))
    go_ret
    exact ⟨rfl, HM.out.below⟩
  have d3 : decide (3000 < (x.text.size : Int) + (x.sig.size : Int)) = false := decide_eq_false (by omega)
  have d4 : decide (3000 < x.text.size + x.sig.size) = false := decide_eq_false hg2
  obtain ⟨A, hA⟩ : ∃ D, D = tx (layT x.plain n0 n1 s0.data.toList) := ⟨_, rfl⟩
  obtain ⟨E, hE⟩ : ∃ D, D = layE x.plain n0 n1 s0.data.toList := ⟨_, rfl⟩
  obtain ⟨Y, hY⟩ : ∃ D, D = ofSay (readX s1.data.toList n0 n1) := ⟨_, rfl⟩
  obtain ⟨G, hG⟩ : ∃ D, D = readE s1.data.toList n0 n1 := ⟨_, rfl⟩
  obtain ⟨U, hU⟩ : ∃ D, D = tx (told n0 n1 n2 s1.data.toList) := ⟨_, rfl⟩
  obtain ⟨TN, hTN⟩ : ∃ D, D = turned s0.data.toList s1.data.toList := ⟨_, rfl⟩
  obtain ⟨LG, hLG⟩ : ∃ D, D = Frm.long n0 n1 := ⟨_, rfl⟩
  have k0 : s0.size ≤ 3000 := by omega
  have k1 : s1.size ≤ 3000 := by omega
  have RL1 := Lib.hid (fun u (hu : Below wz.heap.size wz u) => con.lay x n0 n1 s0 A E u hA hE sm k0 h0 h1 (hl.below hu))
  have RL2 := Lib.hid (fun u => RFrm.lay_ref x n0 n1 s0 A E u hA hE sm z0 h0 h1)
  have RR1 := Lib.hid (fun u (hu : Below wz.heap.size wz u) => con.read s1 n0 n1 Y G u hY hG (Nat.le_trans k1 (by decide)) h0 h1 (hl.below hu))
  have RR2 := Lib.hid (fun u => RFrm.read_ref s1 n0 n1 Y G u hY hG (Nat.le_trans k1 (by decide)) h0 h1)
  have RG1 := Lib.hid (fun u => show Calls Tryz.prog 9 #[.int .i64 n0, .int .i64 n1] u fun z w' => z = .returned (.int .i64 LG) ∧ Below u.heap.size u w' from by rw [hLG]; exact con.long n0 n1 u h0 h1)
  have RG2 := Lib.hid (fun u => show Calls Tryz.prog 10 #[.int .i64 n0, .int .i64 n1] u fun z w' => z = .returned (.int .i64 LG) ∧ Below u.heap.size u w' from by rw [hLG]; exact RFrm.long_ref n0 n1 u h0 h1)
  have RD1 := Lib.hid (fun u (hu : Below wz.heap.size wz u) => con.told n0 n1 n2 s1 U u hU k1 h0 h1 h2 (hl.below hu))
  have RD2 := Lib.hid (fun u => RFrm.told_ref n0 n1 n2 s1 U u hU (Nat.le_trans k1 (by decide)) h0 h1 h2)
  have RT1 := Lib.hid (fun u => con.turned s0 s1 TN u hTN (Nat.le_trans k0 (by decide)) (Nat.le_trans k1 (by decide)))
  have RT2 := Lib.hid (fun u => RFrm.turned_ref s0 s1 TN u hTN (Nat.le_trans k0 (by decide)) (Nat.le_trans k1 (by decide)))
  clear hA hE hY hG hU hTN hLG k0 k1 hg hg2 sm z0 z1 h0 h1 h2 hl
  go_enter Tryz.func3, Tryz.ntmps3
  go_upto_region 1 with ((first
    | ((with_reducible refine Hold.box (t := 23) HM.out rfl rfl rfl ?_); clear HM; intro bx w HM; simp only [List.nil_append, List.cons_append] at HM; replace HM := Lib.hid HM)
    | ((with_reducible refine Hold.box (t := 24) HM.out rfl rfl rfl ?_); clear HM; intro bt w HM; simp only [List.nil_append, List.cons_append] at HM; replace HM := Lib.hid HM)
    | ((with_reducible refine Hold.box (t := 25) HM.out rfl rfl rfl ?_); clear HM; intro bn w HM; simp only [List.nil_append, List.cons_append] at HM; replace HM := Lib.hid HM)))
  refine Steady.region 5 (by kernel_rfl) (by kernel_rfl) (fun u => Below w.heap.size w u) (Below.refl _ _).drew ?_
  simp only [List.take_succ_cons, List.take_zero, List.drop_succ_cons, List.drop_zero]
  refine Steady.take ?_ rfl (by intro u hu; go_simp; with_reducible rfl) ?_
  simp only [Act.put, List.setIfInBounds_toArray, List.set_cons_zero, List.set_cons_succ]
  refine Steady.take (.string s0) rfl (fun u hu => Hold.load1_run (HM.out.next hu) 1 rfl rfl rfl (rfl) (Frm.cellStr)) ?_
  simp only [Act.put, List.setIfInBounds_toArray, List.set_cons_zero, List.set_cons_succ]
  refine Steady.take ?_ rfl (by intro u hu; go_simp; with_reducible rfl) ?_
  simp only [Act.put, List.setIfInBounds_toArray, List.set_cons_zero, List.set_cons_succ]
  refine Steady.take (.string s1) rfl (fun u hu => Hold.load1_run (HM.out.next hu) 1 rfl rfl rfl (rfl) (Frm.cellStr)) ?_
  simp only [Act.put, List.setIfInBounds_toArray, List.set_cons_zero, List.set_cons_succ]
  refine Steady.take ?_ rfl (by intro u hu; go_simp; with_reducible rfl) ?_
  simp only [Act.put, List.setIfInBounds_toArray, List.set_cons_zero, List.set_cons_succ]
  refine Steady.nil ?_
  intro w1 hb1
  replace HM := Lib.hid (HM.out.next hb1)
  clear hb1
  go_upto_region 2 with fail
  obtain ⟨hx2, hx3⟩ := HX.out
  have q2 : w1.cell? ⟨bx, 2, none⟩ = some (.string x.text) := (HM.out.at 0 rfl).row.cell hx2
  have q3 : w1.cell? ⟨bx, 3, none⟩ = some (.string x.sig) := (HM.out.at 0 rfl).row.cell hx3
  clear hx2 hx3
  go_upto_region 4 with fail
  clear q2 q3
  go_upto_region 8 with ((first
    | (with_reducible refine Hold.load HM.out 0 (cs := sayV x) rfl rfl rfl rfl (Hold.Part.all _) (sayRow _) ?_)
    | (with_reducible refine Hold.load1 HM.out 2 (c := .int .i64 n0) rfl rfl rfl rfl rfl Frm.cellInt ?_)
    | (with_reducible refine Hold.load1 HM.out 2 (c := .int .i64 n1) rfl rfl rfl rfl rfl Frm.cellInt ?_)
    | (with_reducible refine Hold.load1 HM.out 2 (c := .int .i64 n2) rfl rfl rfl rfl rfl Frm.cellInt ?_)
    | (with_reducible refine Hold.load1 HM.out 2 (c := .int .i64 n3) rfl rfl rfl rfl rfl Frm.cellInt ?_)
    | ((with_reducible refine (RL1.out _ HM.out.below).mono ?_); rintro e w ⟨rfl, hb⟩; replace HM := Lib.hid (HM.out.next hb); clear hb)
    | ((with_reducible refine (RL2.out _).mono ?_); rintro e w ⟨rfl, hb⟩; replace HM := Lib.hid (HM.out.next hb); clear hb)
    | ((with_reducible refine (RR1.out _ HM.out.below).mono ?_); rintro e w ⟨rfl, hb⟩; replace HM := Lib.hid (HM.out.next hb); clear hb)
    | ((with_reducible refine (RR2.out _).mono ?_); rintro e w ⟨rfl, hb⟩; replace HM := Lib.hid (HM.out.next hb); clear hb)
    | ((with_reducible refine Hold.alloc HM.out rfl rfl zeroS zero_said ?_); clear HM; intro by1 w HM; simp only [List.nil_append, List.cons_append] at HM; replace HM := Lib.hid HM)
    | ((with_reducible refine Hold.store HM.out 3 (v' := sayV Y) rfl rfl rfl rfl rfl (say_fits Y zeroX) (say_laid Y zeroX) (say_one Y) (sayRow Y) ?_); clear HM; intro w HM; simp only [List.set_cons_zero, List.set_cons_succ] at HM; replace HM := Lib.hid HM)
    | ((with_reducible refine Hold.store HM.out 4 (v' := sayV Y) rfl rfl rfl rfl rfl (say_fits Y zeroX) (say_laid Y zeroX) (say_one Y) (sayRow Y) ?_); clear HM; intro w HM; simp only [List.set_cons_zero, List.set_cons_succ] at HM; replace HM := Lib.hid HM)))
  refine Steady.region 62 (by kernel_rfl) (by kernel_rfl) (fun u => Below w.heap.size w u) (Below.refl _ _).drew ?_
  simp only [List.take_succ_cons, List.take_zero, List.drop_succ_cons, List.drop_zero]
  refine Steady.take ?_ rfl (by intro u hu; go_simp; with_reducible rfl) ?_
  simp only [Act.put, List.setIfInBounds_toArray, List.set_cons_zero, List.set_cons_succ]
  refine Steady.take (.int .i64 n0) rfl (fun u hu => Hold.load1_run (HM.out.next hu) 2 rfl rfl rfl (rfl) (Frm.cellInt)) ?_
  simp only [Act.put, List.setIfInBounds_toArray, List.set_cons_zero, List.set_cons_succ]
  refine Steady.take ?_ rfl (by intro u hu; go_simp; with_reducible rfl) ?_
  simp only [Act.put, List.setIfInBounds_toArray, List.set_cons_zero, List.set_cons_succ]
  refine Steady.take (.int .i64 n1) rfl (fun u hu => Hold.load1_run (HM.out.next hu) 2 rfl rfl rfl (rfl) (Frm.cellInt)) ?_
  simp only [Act.put, List.setIfInBounds_toArray, List.set_cons_zero, List.set_cons_succ]
  refine Steady.call _ _ _ rfl ?_ (Chn.keptIf (fun u hu => RG1.out u)) ?_
  · intro u
    go_simp
  simp only [Act.put, List.setIfInBounds_toArray, List.set_cons_zero, List.set_cons_succ]
  refine Steady.take ?_ rfl (by intro u hu; go_simp; with_reducible rfl) ?_
  simp only [Act.put, List.setIfInBounds_toArray, List.set_cons_zero, List.set_cons_succ]
  refine Steady.take (.int .i64 n0) rfl (fun u hu => Hold.load1_run (HM.out.next hu) 2 rfl rfl rfl (rfl) (Frm.cellInt)) ?_
  simp only [Act.put, List.setIfInBounds_toArray, List.set_cons_zero, List.set_cons_succ]
  refine Steady.take ?_ rfl (by intro u hu; go_simp; with_reducible rfl) ?_
  simp only [Act.put, List.setIfInBounds_toArray, List.set_cons_zero, List.set_cons_succ]
  refine Steady.take (.int .i64 n1) rfl (fun u hu => Hold.load1_run (HM.out.next hu) 2 rfl rfl rfl (rfl) (Frm.cellInt)) ?_
  simp only [Act.put, List.setIfInBounds_toArray, List.set_cons_zero, List.set_cons_succ]
  refine Steady.call _ _ _ rfl ?_ (Chn.keptIf (fun u hu => RG2.out u)) ?_
  · intro u
    go_simp
  simp only [Act.put, List.setIfInBounds_toArray, List.set_cons_zero, List.set_cons_succ]
  refine Steady.take ?_ rfl (by intro u hu; go_simp; with_reducible rfl) ?_
  simp only [Act.put, List.setIfInBounds_toArray, List.set_cons_zero, List.set_cons_succ]
  refine Steady.take ?_ rfl (by intro u hu; go_simp; with_reducible rfl) ?_
  simp only [Act.put, List.setIfInBounds_toArray, List.set_cons_zero, List.set_cons_succ]
  refine Steady.take ?_ rfl (by intro u hu; go_simp; with_reducible rfl) ?_
  simp only [Act.put, List.setIfInBounds_toArray, List.set_cons_zero, List.set_cons_succ]
  refine Steady.take (.int .i64 n0) rfl (fun u hu => Hold.load1_run (HM.out.next hu) 2 rfl rfl rfl (rfl) (Frm.cellInt)) ?_
  simp only [Act.put, List.setIfInBounds_toArray, List.set_cons_zero, List.set_cons_succ]
  refine Steady.take ?_ rfl (by intro u hu; go_simp; with_reducible rfl) ?_
  simp only [Act.put, List.setIfInBounds_toArray, List.set_cons_zero, List.set_cons_succ]
  refine Steady.take (.int .i64 n1) rfl (fun u hu => Hold.load1_run (HM.out.next hu) 2 rfl rfl rfl (rfl) (Frm.cellInt)) ?_
  simp only [Act.put, List.setIfInBounds_toArray, List.set_cons_zero, List.set_cons_succ]
  refine Steady.take ?_ rfl (by intro u hu; go_simp; with_reducible rfl) ?_
  simp only [Act.put, List.setIfInBounds_toArray, List.set_cons_zero, List.set_cons_succ]
  refine Steady.take (.int .i64 n2) rfl (fun u hu => Hold.load1_run (HM.out.next hu) 2 rfl rfl rfl (rfl) (Frm.cellInt)) ?_
  simp only [Act.put, List.setIfInBounds_toArray, List.set_cons_zero, List.set_cons_succ]
  refine Steady.take ?_ rfl (by intro u hu; go_simp; with_reducible rfl) ?_
  simp only [Act.put, List.setIfInBounds_toArray, List.set_cons_zero, List.set_cons_succ]
  refine Steady.call _ _ _ rfl ?_ (Chn.keptIf (fun u hu => RD1.out u (HM.out.next hu).below)) ?_
  · intro u
    go_simp
  simp only [Act.put, List.setIfInBounds_toArray, List.set_cons_zero, List.set_cons_succ]
  refine Steady.take ?_ rfl (by intro u hu; go_simp; with_reducible rfl) ?_
  simp only [Act.put, List.setIfInBounds_toArray, List.set_cons_zero, List.set_cons_succ]
  refine Steady.take (.int .i64 n0) rfl (fun u hu => Hold.load1_run (HM.out.next hu) 2 rfl rfl rfl (rfl) (Frm.cellInt)) ?_
  simp only [Act.put, List.setIfInBounds_toArray, List.set_cons_zero, List.set_cons_succ]
  refine Steady.take ?_ rfl (by intro u hu; go_simp; with_reducible rfl) ?_
  simp only [Act.put, List.setIfInBounds_toArray, List.set_cons_zero, List.set_cons_succ]
  refine Steady.take (.int .i64 n1) rfl (fun u hu => Hold.load1_run (HM.out.next hu) 2 rfl rfl rfl (rfl) (Frm.cellInt)) ?_
  simp only [Act.put, List.setIfInBounds_toArray, List.set_cons_zero, List.set_cons_succ]
  refine Steady.take ?_ rfl (by intro u hu; go_simp; with_reducible rfl) ?_
  simp only [Act.put, List.setIfInBounds_toArray, List.set_cons_zero, List.set_cons_succ]
  refine Steady.take (.int .i64 n2) rfl (fun u hu => Hold.load1_run (HM.out.next hu) 2 rfl rfl rfl (rfl) (Frm.cellInt)) ?_
  simp only [Act.put, List.setIfInBounds_toArray, List.set_cons_zero, List.set_cons_succ]
  refine Steady.take ?_ rfl (by intro u hu; go_simp; with_reducible rfl) ?_
  simp only [Act.put, List.setIfInBounds_toArray, List.set_cons_zero, List.set_cons_succ]
  refine Steady.call _ _ _ rfl ?_ (Chn.keptIf (fun u hu => RD2.out u)) ?_
  · intro u
    go_simp
  simp only [Act.put, List.setIfInBounds_toArray, List.set_cons_zero, List.set_cons_succ]
  refine Steady.take ?_ rfl (by intro u hu; go_simp; with_reducible rfl) ?_
  simp only [Act.put, List.setIfInBounds_toArray, List.set_cons_zero, List.set_cons_succ]
  refine Steady.take ?_ rfl (by intro u hu; go_simp; with_reducible rfl) ?_
  simp only [Act.put, List.setIfInBounds_toArray, List.set_cons_zero, List.set_cons_succ]
  refine Steady.take ?_ rfl (by intro u hu; go_simp; with_reducible rfl) ?_
  simp only [Act.put, List.setIfInBounds_toArray, List.set_cons_zero, List.set_cons_succ]
  refine Steady.take ?_ rfl (by intro u hu; go_simp; with_reducible rfl) ?_
  simp only [Act.put, List.setIfInBounds_toArray, List.set_cons_zero, List.set_cons_succ]
  refine Steady.take ?_ rfl (by intro u hu; go_simp; with_reducible rfl) ?_
  simp only [Act.put, List.setIfInBounds_toArray, List.set_cons_zero, List.set_cons_succ]
  refine Steady.take ?_ rfl (by intro u hu; go_simp; with_reducible rfl) ?_
  simp only [Act.put, List.setIfInBounds_toArray, List.set_cons_zero, List.set_cons_succ]
  refine Steady.take ?_ rfl (by intro u hu; go_simp; with_reducible rfl) ?_
  simp only [Act.put, List.setIfInBounds_toArray, List.set_cons_zero, List.set_cons_succ]
  refine Steady.take ?_ rfl (by intro u hu; go_simp; with_reducible rfl) ?_
  simp only [Act.put, List.setIfInBounds_toArray, List.set_cons_zero, List.set_cons_succ]
  refine Steady.take ?_ rfl (by intro u hu; go_simp; with_reducible rfl) ?_
  simp only [Act.put, List.setIfInBounds_toArray, List.set_cons_zero, List.set_cons_succ]
  refine Steady.take ?_ rfl (by intro u hu; go_simp; with_reducible rfl) ?_
  simp only [Act.put, List.setIfInBounds_toArray, List.set_cons_zero, List.set_cons_succ]
  refine Steady.take ?_ rfl (by intro u hu; go_simp; with_reducible rfl) ?_
  simp only [Act.put, List.setIfInBounds_toArray, List.set_cons_zero, List.set_cons_succ]
  refine Steady.take ?_ rfl (by intro u hu; go_simp; with_reducible rfl) ?_
  simp only [Act.put, List.setIfInBounds_toArray, List.set_cons_zero, List.set_cons_succ]
  refine Steady.take ?_ rfl (by intro u hu; go_simp; with_reducible rfl) ?_
  simp only [Act.put, List.setIfInBounds_toArray, List.set_cons_zero, List.set_cons_succ]
  refine Steady.take (.agg (sayV Y).toArray) rfl (fun u hu => Hold.load_run (HM.out.next hu) 3 rfl rfl rfl (Hold.Part.all _) (sayRow _)) ?_
  simp only [Act.put, List.setIfInBounds_toArray, List.set_cons_zero, List.set_cons_succ]
  refine Steady.take (.agg (sayV Y).toArray) rfl (fun u hu => Hold.load_run (HM.out.next hu) 4 rfl rfl rfl (Hold.Part.all _) (sayRow _)) ?_
  simp only [Act.put, List.setIfInBounds_toArray, List.set_cons_zero, List.set_cons_succ]
  refine Steady.take (.bool true) rfl (fun u hu => said_eql Y Y true (same_self Y).symm rfl rfl rfl u) ?_
  simp only [Act.put, List.setIfInBounds_toArray, List.set_cons_zero, List.set_cons_succ]
  refine Steady.take ?_ rfl (by intro u hu; go_simp; with_reducible rfl) ?_
  simp only [Act.put, List.setIfInBounds_toArray, List.set_cons_zero, List.set_cons_succ]
  refine Steady.take ?_ rfl (by intro u hu; go_simp; with_reducible rfl) ?_
  simp only [Act.put, List.setIfInBounds_toArray, List.set_cons_zero, List.set_cons_succ]
  refine Steady.take ?_ rfl (by intro u hu; go_simp; with_reducible rfl) ?_
  simp only [Act.put, List.setIfInBounds_toArray, List.set_cons_zero, List.set_cons_succ]
  refine Steady.take ?_ rfl (by intro u hu; go_simp; with_reducible rfl) ?_
  simp only [Act.put, List.setIfInBounds_toArray, List.set_cons_zero, List.set_cons_succ]
  refine Steady.take ?_ rfl (by intro u hu; go_simp; with_reducible rfl) ?_
  simp only [Act.put, List.setIfInBounds_toArray, List.set_cons_zero, List.set_cons_succ]
  refine Steady.take ?_ rfl (by intro u hu; go_simp; with_reducible rfl) ?_
  simp only [Act.put, List.setIfInBounds_toArray, List.set_cons_zero, List.set_cons_succ]
  refine Steady.take ?_ rfl (by intro u hu; go_simp; with_reducible rfl) ?_
  simp only [Act.put, List.setIfInBounds_toArray, List.set_cons_zero, List.set_cons_succ]
  refine Steady.take ?_ rfl (by intro u hu; go_simp; with_reducible rfl) ?_
  simp only [Act.put, List.setIfInBounds_toArray, List.set_cons_zero, List.set_cons_succ]
  refine Steady.take ?_ rfl (by intro u hu; go_simp; with_reducible rfl) ?_
  simp only [Act.put, List.setIfInBounds_toArray, List.set_cons_zero, List.set_cons_succ]
  refine Steady.call _ _ _ rfl ?_ (Chn.keptIf (fun u hu => RT1.out u)) ?_
  · intro u
    go_simp
  simp only [Act.put, List.setIfInBounds_toArray, List.set_cons_zero, List.set_cons_succ]
  refine Steady.take ?_ rfl (by intro u hu; go_simp; with_reducible rfl) ?_
  simp only [Act.put, List.setIfInBounds_toArray, List.set_cons_zero, List.set_cons_succ]
  refine Steady.take ?_ rfl (by intro u hu; go_simp; with_reducible rfl) ?_
  simp only [Act.put, List.setIfInBounds_toArray, List.set_cons_zero, List.set_cons_succ]
  refine Steady.call _ _ _ rfl ?_ (Chn.keptIf (fun u hu => RT2.out u)) ?_
  · intro u
    go_simp
  simp only [Act.put, List.setIfInBounds_toArray, List.set_cons_zero, List.set_cons_succ]
  refine Steady.take ?_ rfl (by intro u hu; go_simp; with_reducible rfl) ?_
  simp only [Act.put, List.setIfInBounds_toArray, List.set_cons_zero, List.set_cons_succ]
  refine Steady.take ?_ rfl (by intro u hu; go_simp; with_reducible rfl) ?_
  simp only [Act.put, List.setIfInBounds_toArray, List.set_cons_zero, List.set_cons_succ]
  refine Steady.take ?_ rfl (by intro u hu; go_simp; with_reducible rfl) ?_
  simp only [Act.put, List.setIfInBounds_toArray, List.set_cons_zero, List.set_cons_succ]
  refine Steady.call _ _ _ rfl ?_ (Chn.keptIf (fun u hu => RA.out u (HM.out.next hu).below)) ?_
  · intro u
    go_simp
  simp only [Act.put, List.setIfInBounds_toArray, List.set_cons_zero, List.set_cons_succ]
  refine Steady.take ?_ rfl (by intro u hu; go_simp; with_reducible rfl) ?_
  simp only [Act.put, List.setIfInBounds_toArray, List.set_cons_zero, List.set_cons_succ]
  refine Steady.nil ?_
  intro w1 hb1
  replace HM := Lib.hid (HM.out.next hb1)
  clear hb1
  go_wp2
  go_ret
  exact ⟨rfl, HM.out.below⟩

set_option maxHeartbeats 1600000 in
theorem lifted (con : Con) (os : Os) (started : os.Started) (H : Type) (enc : TypeId × Value → H) :
    ReturnsInHanded {} Tryz.checked os 3 .any (fun w args => (Rows.frameSaysSpec.pre enc Tryz.prog Tryz.f3 [] false w args ∧ laidMetH Tryz.prog Frk.laidL w) ∧ sizedMet enc Tryz.prog Tryz.f3 (OpenSpec.ofChange Rows.frameSaysSpec) false w args)
      (Rows.frameSaysSpec.post enc Tryz.prog Tryz.f3 false true false false) := by
  refine returnsInHanded_of_change_and (C := Tryz.checked) (X := fun w _ => laidMetH Tryz.prog Frk.laidL w) (fun _ _ _ hh h => h.of_heap hh) Frk.own started (by kernel_rfl) Tryz.func3
    (ChangeSpec.witness_shaped (enc := enc) (C := Tryz.checked) (os := os) (X := fun w _ => laidMetH Tryz.prog Frk.laidL w) false (World.laidAll Tryz.prog os Frk.laidL) #[.agg #[.int .i64 0, .int .i64 0, .string ByteArray.empty, .string ByteArray.empty], .agg #[.string ByteArray.empty, .string ByteArray.empty], .agg #[.int .i64 0, .int .i64 0, .int .i64 0, .int .i64 0]] 8 (World.laidAll_os _ _ _) (Frk.table_shaped os _) (by kernel_rfl) (by kernel_rfl) (by kernel_rfl) (Frk.table_met os _)) ?_
  intro W base args ds gs before hval0 hW _ hsz0 hL _
  have hval : ∀ (j : Nat) t v, Tryz.f3.params[j]? = some t → args[j]? = some v → Value.okWide Tryz.prog W .any base t v := hval0
  have hsz : (DataW.weightsEach Tryz.prog (Tryz.f3.params.toList ++ Rows.frameSaysSpec.plain.varTypes Tryz.prog) (ds ++ gs)).all (· ≤ reachBytes) = true := hsz0
  clear hsz0
  have hW' := hW
  obtain ⟨p, q, hA0, hV, rfl, hfz, hnd⟩ := hW
  have hA : DataW.TrodAll enc Tryz.prog W 0 (fun _ => true) true Tryz.f3.params.toList args.toList ds p := hA0
  rw [Tryz.params3] at hA hval hsz
  obtain ⟨v0, vs0, d0, ds0, p0, q0, hargs, rfl, rfl, h0, r0⟩ := trodAll_cons hA
  obtain ⟨v1, vs1, d1, ds1, p1, q1, rfl, rfl, rfl, h1, r1⟩ := trodAll_cons r0
  obtain ⟨v2, vs2, d2, ds2, p2, q2, rfl, rfl, rfl, h2, r2⟩ := trodAll_cons r1
  obtain ⟨rfl, rfl, rfl⟩ := trodAll_nil r2
  obtain rfl : args = #[v0, v1, v2] := by cases args; simp_all
  obtain ⟨rfl, rfl⟩ := trodVars_none hV
  have k0 := h0
  have lt0 : ∀ x ∈ p0, x.block < W.heap.size := by obtain ⟨m, hm⟩ := k0; exact DataW.trod_lt m _ _ _ hm
  obtain ⟨xn0, xq0, xt0, xs0, rfl, x0, y0, z0, u0⟩ := FrO.open_said (hval 0 23 v0 rfl rfl) h0 (fun m hm => by have := List.all_eq_true.1 hsz _ (DataW.weights_mem_each (j := 0) rfl rfl m hm); simpa using this)
  have k1 := h1
  have lt1 : ∀ x ∈ p1, x.block < W.heap.size := by obtain ⟨m, hm⟩ := k1; exact DataW.trod_lt m _ _ _ hm
  obtain ⟨s1, t1, rfl, rfl⟩ := FrO.open_texts (hval 1 24 v1 rfl rfl) h1
  have zz1 := Open.sized_string_array hsz (j := 1) (t := 24) (ss := [s1, t1]) rfl rfl Tryz.underlying24
  have k2 := h2
  have lt2 : ∀ x ∈ p2, x.block < W.heap.size := by obtain ⟨m, hm⟩ := k2; exact DataW.trod_lt m _ _ _ hm
  obtain ⟨ia2, ib2, ic2, id2, rfl, x2, y2, z2, u2⟩ := FrO.open_four (hval 2 25 v2 rfl rfl) h2
  have hcl := Frk.of_laid hL
  clear hA0 hval0
  refine (walk con ⟨xn0, xq0, xt0, xs0⟩ s1 t1 ia2 ib2 ic2 id2 W ⟨x0, y0, z0, u0⟩ (zz1 s1 (by simp)) (zz1 t1 (by simp)) x2 y2 z2 u2 hcl).mono fun e W' ⟨he, bel⟩ => ?_
  subst he
  exact ⟨_, rfl, _, _, _, [], _, [], hW', trodAll_mk1 (shut_bool Tryz.underlying4 _), (trodAll_cons_mk (Below.trod Frk.laidOut (by kernel_rfl) (of_decide_eq_true (by kernel_rfl)) k0 bel lt0) (trodAll_cons_mk (Below.trod Frk.laidOut (by kernel_rfl) (of_decide_eq_true (by kernel_rfl)) k1 bel lt1) (trodAll_cons_mk (Below.trod Frk.laidOut (by kernel_rfl) (of_decide_eq_true (by kernel_rfl)) k2 bel lt2) trodAll_mk0))), rfl, bel.frame _, fun h => by cases h⟩

theorem over (con : Con) : Rows.FrameSaysSaid :=
  OpenClaim.holds_of_wide 3 Tryz.f3 rfl rfl rfl rfl rfl rfl rfl ⟨rfl, rfl, rfl, rfl, rfl⟩ rfl rfl rfl rfl rfl (by kernel_rfl) Tryz.func3 (by kernel_rfl)
    (of_decide_eq_true (by kernel_rfl)) (by unfold Func.isWrapper; first | (rw [if_pos (by decide +kernel)]; kernel_rfl) | (rw [if_neg (by decide +kernel)]; exact ⟨rfl, rfl⟩))
    (fun os started H enc _ => lifted con os started H enc)

theorem of_con (con : Con) : Rows.FrameSaysCardSaid :=
  Claim7.holds_tied_plain_at .later [] [.data, .data, .data, .data, .data, .pinned] true Rows.frameSaysCard.stood.harness false
    (over con) (fun _ h => by cases h) (by kernel_rfl) (fun _ h => by cases h) frameSays_row_tie rfl ⟨rfl, rfl⟩ (by kernel_rfl) rfl
    (fun f fn hf hfn => by
      obtain rfl : f = 3 := Option.some.inj ((show Tryz.prog.funcNamed "murmur/murmurlaw18.FrameSays" = some 3 by kernel_rfl).symm.trans hf) |>.symm
      obtain rfl : fn = Tryz.f3 := (Option.some.inj (Tryz.func3.symm.trans hfn)).symm
      exact ⟨by kernel_rfl, fun j t ht => by
        rw [Tryz.params3] at ht
        have hm : t ∈ [23, 24, 25] := by simpa using Array.mem_of_getElem? ht
        have hall : ([23, 24, 25].all fun u => !Tryz.prog.wantsStandIn u) = true := by kernel_rfl
        exact (show Tryz.prog.wantsStandIn t = false by simpa using List.all_eq_true.1 hall t hm)⟩)
    (by kernel_rfl)
/-- The statement. -/
theorem proved : Rows.FrameSaysCardSaid := of_con Frm.con
#print axioms proved
end Go.Proofs.YtlodgomjlkpdhaaGreatDoor.LawFSy
