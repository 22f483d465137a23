/-
  FrameBack: what is laid is read again, of any capacity, with any seed, and has as many bytes as it must: for whatever a slot says, every number and every text the law answers true and changes nothing that was there. Condition: the listed tables hold what the program lays there.
-/
import Derived.Test.YtlodgomjlkpdhaaDoorFrX
import Derived.Test.YtlodgomjlkpdhaaDoorFrK
import Derived.Test.YtlodgomjlkpdhaaDoorFrO
import Derived.Test.YtlodgomjlkpdhaaDoorFrlz
namespace Go.Proofs.YtlodgomjlkpdhaaDoor.LawFBk
open Go.ChangeShapes Go.WideShapes Go.ChangeAt Go.RowKit Mur Prt Lanes Tap Cel Frm
open Go.ChangeMaps (open_string shut_string)
set_option maxRecDepth 100000
set_option linter.unusedSimpArgs false

theorem rest_of (x : Int) (q : Nat) (h1 : 0 < q) (h2 : q ≤ 1000) : ∃ m : Nat, m < q ∧ wrap64 ((IntKind.u64.wrap x).tmod (q : Int)) = (m : Int) := by
  rw [IntKind.wrap_u64, Int.tmod_eq_emod_of_nonneg (by omega)]
  have h3 : 0 ≤ x % 18446744073709551616 % (q : Int) := Int.emod_nonneg _ (by omega)
  have h4 : x % 18446744073709551616 % (q : Int) < q := Int.emod_lt_of_pos _ (by omega)
  refine ⟨(x % 18446744073709551616 % (q : Int)).toNat, by omega, ?_⟩
  rw [IntWalk.wrap64_in _ (by omega)]
  omega
theorem say_lt (x : SayB) (k : Nat) (h : k < 4) : k < (sayV x).length := h
theorem z64 : InR 0 := ⟨by decide, by decide⟩
theorem empty_list : (⟨#[]⟩ : ByteArray).toList = [] := by rw [ByteArray.toList_eq]
theorem empty_size (t : ByteArray) (h : t.size = 0) : t = ⟨#[]⟩ := ByteArray.ext (Array.eq_empty_of_size_eq_zero h)
theorem text_some (t : ByteArray) (h : t.size ≠ 0) : t.data.toList ≠ [] := fun e => h (by
  have := congrArg List.length e
  rw [Array.length_toList] at this
  exact this)

/-- What the statement asks of what it lays. -/
theorem tail_any (x : SayB) (C : Int) (seed : ByteArray) (n : Nat) (hC1 : 1 ≤ C) (hC2 : C ≤ 16) (hn : n ≤ 100) (h0 : x.text.data.toList = [] → x.seq = 0 ∧ x.sig.data.toList = []) (hs : x.text.data.toList ≠ [] → x.sig.size = n) :
    (layE x.plain C (n : Int) seed.data.toList ≠ 0 → tx (layT x.plain C (n : Int) seed.data.toList) = ⟨#[]⟩) ∧
    (layE x.plain C (n : Int) seed.data.toList = 0 → x = ofSay (readX (layT x.plain C (n : Int) seed.data.toList) C (n : Int)) ∧ (0 : Int) = readE (layT x.plain C (n : Int) seed.data.toList) C (n : Int) ∧ ((tx (layT x.plain C (n : Int) seed.data.toList)).size : Int) = Frm.long C (n : Int) ∧ Frm.long C (n : Int) ≤ 200) := by
  constructor
  · intro h
    rw [lay_err _ _ _ _ h]
  · intro h
    have hb := back x.plain C (n : Int) seed.data.toList h h0 (fun hh => by
      have := hs hh
      show ((x.sig.data.toList.length : Nat) : Int) = (n : Int)
      rw [Array.length_toList]
      show ((x.sig.size : Nat) : Int) = (n : Int)
      omega)
    refine ⟨by rw [hb.2]; rfl, hb.1.symm, lay_length _ _ _ _ h, ?_⟩
    rw [long_in C (n : Int) hC1 hC2 (by omega) (by omega)]
    omega

set_option maxHeartbeats 12800000 in
theorem walk (con : Con) (x : SayB) (cp : Int) (seed : ByteArray) (wz : World) (sm : Small x) (_ : -9223372036854775808 ≤ cp ∧ cp ≤ 9223372036854775807) (_ : seed.size ≤ 140737488351232) (hl : Laid wz) :
    Calls Tryd.prog 3 #[.agg (sayV x).toArray, .int .i64 cp, .string seed] wz fun e w' => e = .returned (.bool true) ∧ Below wz.heap.size wz w' := by
  have RA := Lib.hid (fun u (hu : Below wz.heap.size wz u) => awake_any con u (hl.below hu))
  have HM := Lib.hid (Hold.Hld.start wz)
  by_cases hg : seed.size = 4
  case neg =>
    have d1 : ((seed.size : Int) != 4) = true := by simp; omega
    go_enter Tryd.func3, Tryd.ntmps3
    go_wp2_with ((first
      | ((with_reducible refine Hold.box HM.out rfl rfl rfl ?_); clear HM; intro bx w HM; simp only [List.nil_append, List.cons_append] at HM; replace HM := Lib.hid HM)
      | ((with_reducible refine (RA.out _ HM.out.below).mono ?_); rintro e w ⟨rfl, hb⟩; replace HM := Lib.hid (HM.out.next hb); clear hb)))
    go_ret
    exact ⟨rfl, HM.out.below⟩
  have d1 : ((seed.size : Int) != 4) = false := by simp; omega
  by_cases hg2 : 100 < x.sig.size
  · have d2 : decide (100 < (x.sig.size : Int)) = true := decide_eq_true (by omega)
    have d3 : decide (100 < x.sig.size) = true := decide_eq_true hg2
    go_enter Tryd.func3, Tryd.ntmps3
    go_upto_region 1 with ((with_reducible refine Hold.box HM.out rfl rfl rfl ?_); clear HM; intro bx w HM; simp only [List.nil_append, List.cons_append] at HM; replace HM := Lib.hid HM)
    have q3 : w.cell? ⟨bx, 3, none⟩ = some (.string x.sig) := (HM.out.at 0 rfl).row.cell rfl
    go_wp2_with ((with_reducible refine (RA.out _ HM.out.below).mono ?_); rintro e w ⟨rfl, hb⟩; replace HM := Lib.hid (HM.out.next hb); clear hb q3)
    go_ret
    exact ⟨rfl, HM.out.below⟩
  have d2 : decide (100 < (x.sig.size : Int)) = false := decide_eq_false (by omega)
  have d3 : decide (100 < x.sig.size) = false := decide_eq_false hg2
  obtain ⟨m, hm, hq⟩ := rest_of cp 16 (by omega) (by omega)
  obtain ⟨C, hC⟩ : ∃ C : Int, C = 1 + (m : Int) := ⟨_, rfl⟩
  have hw : wrap64 (1 + wrap64 ((IntKind.u64.wrap cp).tmod 16)) = C := by
    rw [show wrap64 ((IntKind.u64.wrap cp).tmod 16) = (m : Int) from hq, IntWalk.wrap64_in _ (by omega), hC]
  obtain ⟨n, hn⟩ : ∃ n, n = x.sig.size := ⟨_, rfl⟩
  have HW := Lib.hid hw
  have HQN := Lib.hid hn
  clear hw hq
  have hx3 : (sayV x)[3]? = some (.string x.sig) := rfl
  have hx2 : (sayV x)[2]? = some (.string x.text) := rfl
  by_cases hz : x.text.size = 0
  · obtain ⟨y, hy⟩ : ∃ y : SayB, y = ⟨x.next, 0, x.text, ⟨#[]⟩⟩ := ⟨_, rfl⟩
    have hte := empty_size _ hz
    have tl := tail_any y C seed n (by omega) (by omega) (by omega) (fun _ => by rw [hy]; exact ⟨rfl, rfl⟩) (fun h => by rw [hy, hte] at h; exact absurd rfl h)
    have hsy : Small y := by rw [hy]; exact ⟨sm.next, z64, sm.text, Nat.zero_le _⟩
    have z1 : (x.text.toList == []) = true := by rw [hte, empty_list]; rfl
    have z2 : x.text.toList.isEmpty = true := by rw [hte, empty_list]; rfl
    have z3 : decide (x.text.size = 0) = true := decide_eq_true hz
    have st1 : (sayV x).set 1 (.int .i64 0) = sayV ⟨x.next, 0, x.text, x.sig⟩ := rfl
    have st2 : (sayV ⟨x.next, 0, x.text, x.sig⟩).set 3 (.string ⟨#[]⟩) = sayV y := by rw [hy]; rfl
    clear hy hte
    obtain ⟨E, hE⟩ : ∃ E, E = layE y.plain C (n : Int) seed.data.toList := ⟨_, rfl⟩
    obtain ⟨X, hX⟩ : ∃ X, X = tx (layT y.plain C (n : Int) seed.data.toList) := ⟨_, rfl⟩
    have hXd : X.data.toList = layT y.plain C (n : Int) seed.data.toList := by rw [hX]
    have iC : InR C := ⟨by omega, by omega⟩
    have iN := inN n (by omega)
    have R1 := Lib.hid (fun u (hu : Below wz.heap.size wz u) => con.lay y C (n : Int) seed X E u hX hE hsy (by omega) iC iN (hl.below hu))
    rw [← hE, ← hX, ← hXd] at tl
    by_cases he : E = 0
    · obtain ⟨k1, k2, k3, k4⟩ := tl.2 he
      subst he
      have R2 := Lib.hid (fun u (hu : Below wz.heap.size wz u) => con.read X C (n : Int) y 0 u k1 k2 (by omega) iC iN (hl.below hu))
      have R3 := Lib.hid (fun u => con.long C (n : Int) u iC iN)
      have t1 : ((X.size : Int) == Frm.long C (n : Int)) = true := by rw [k3]; simp
      rw [hn] at R1 R2 R3 t1
      generalize Frm.long C (x.sig.size : Int) = LG at *
      clear tl k1 k2 k3 k4 hE hX hXd iC iN hsy hC hm hn hg hg2 sm hl hz
      go_enter Tryd.func3, Tryd.ntmps3
      go_upto_region 1 with ((with_reducible refine Hold.box HM.out rfl rfl rfl ?_); clear HM; intro bx w HM; simp only [List.nil_append, List.cons_append] at HM; replace HM := Lib.hid HM)
      have q3 : w.cell? ⟨bx, 3, none⟩ = some (.string x.sig) := (HM.out.at 0 rfl).row.cell rfl
      go_upto_region 3 with fail
      clear q3
      go_upto_region 4 with fail
      rw [HW.out]
      clear HW
      generalize (IntKind.u64.wrap cp).tmod 16 = y0
      generalize IntKind.u64.wrap cp = y1
      generalize wrap64 y0 = y2
      go_upto_region 11 with ((first
        | (with_reducible refine Hold.load1 HM.out 0 (c := .string x.sig) rfl rfl rfl rfl hx3 Frm.cellStr ?_)
        | (with_reducible refine Hold.load1 HM.out 0 (c := .string x.text) rfl rfl rfl rfl hx2 Frm.cellStr ?_)
        | ((with_reducible refine Hold.store1 HM.out 0 (c := .int .i64 0) (v' := sayV ⟨x.next, 0, x.text, x.sig⟩) rfl rfl rfl rfl rfl (say_lt x 1 (by decide)) st1 (Hold.cell_int _ _) Frm.cellInt ?_); clear HM; intro w HM; simp only [List.set_cons_zero, List.set_cons_succ] at HM; replace HM := Lib.hid HM)
        | ((with_reducible refine Hold.store1 HM.out 0 (c := .string ⟨#[]⟩) (v' := sayV y) rfl rfl rfl rfl rfl (say_lt _ 3 (by decide)) st2 ⟨rfl, rfl⟩ Frm.cellStr ?_); clear HM; intro w HM; simp only [List.set_cons_zero, List.set_cons_succ] at HM; replace HM := Lib.hid HM)
        | (with_reducible refine Hold.load HM.out 0 (cs := sayV y) rfl rfl rfl rfl (Hold.Part.all _) (sayRow _) ?_)
        | ((with_reducible refine (R1.out _ HM.out.below).mono ?_); rintro e w ⟨rfl, hb⟩; replace HM := Lib.hid (HM.out.next hb); clear hb)
        | ((with_reducible refine (R2.out _ HM.out.below).mono ?_); rintro e w ⟨rfl, hb⟩; replace HM := Lib.hid (HM.out.next hb); clear hb)
        | ((with_reducible refine Hold.alloc HM.out rfl rfl zeroS zero_said ?_); clear HM; intro by2 w HM; simp only [List.nil_append, List.cons_append] at HM; replace HM := Lib.hid HM)
        | ((with_reducible refine Hold.store HM.out 1 (v' := sayV y) rfl rfl rfl rfl rfl (say_fits _ _) (say_laid _ _) (say_one _) (sayRow _) ?_); clear HM; intro w HM; simp only [List.set_cons_zero, List.set_cons_succ] at HM; replace HM := Lib.hid HM)))
      go_wp2_with ((first
        | ((with_reducible refine (R3.out _).mono ?_); rintro e w ⟨rfl, hb⟩; replace HM := Lib.hid (HM.out.next hb); clear hb)
        | ((with_reducible refine (RA.out _ HM.out.below).mono ?_); rintro e w ⟨rfl, hb⟩; replace HM := Lib.hid (HM.out.next hb); clear hb)
        | (refine Hold.wpList_want (by rfl) (.agg (sayV y).toArray) (Hold.load_run HM.out 0 rfl rfl rfl (Hold.Part.all _) (sayRow _)) ?_)
        | (refine Hold.wpList_want (by rfl) (.agg (sayV y).toArray) (Hold.load_run HM.out 1 rfl rfl rfl (Hold.Part.all _) (sayRow _)) ?_)
        | (refine Hold.wpList_want (by rfl) (.bool true) (said_eql y y true (same_self y).symm rfl rfl rfl _) ?_)))
      go_ret
      exact ⟨by simp, HM.out.below⟩
    · have k1 := tl.1 he
      rw [k1] at R1
      have q1 : ((E : Int) != 0) = true := by simpa using he
      have q2 : ((E : Int) == 0) = false := by simpa using he
      rw [hn] at R1
      clear tl k1 hE hX hXd iC iN hsy hC hm hn hg hg2 sm hl hz he
      go_enter Tryd.func3, Tryd.ntmps3
      go_upto_region 1 with ((with_reducible refine Hold.box HM.out rfl rfl rfl ?_); clear HM; intro bx w HM; simp only [List.nil_append, List.cons_append] at HM; replace HM := Lib.hid HM)
      have q3 : w.cell? ⟨bx, 3, none⟩ = some (.string x.sig) := (HM.out.at 0 rfl).row.cell rfl
      go_upto_region 3 with fail
      clear q3
      go_upto_region 4 with fail
      rw [HW.out]
      clear HW
      generalize (IntKind.u64.wrap cp).tmod 16 = y0
      generalize IntKind.u64.wrap cp = y1
      generalize wrap64 y0 = y2
      go_wp2_with ((first
        | (with_reducible refine Hold.load1 HM.out 0 (c := .string x.sig) rfl rfl rfl rfl hx3 Frm.cellStr ?_)
        | (with_reducible refine Hold.load1 HM.out 0 (c := .string x.text) rfl rfl rfl rfl hx2 Frm.cellStr ?_)
        | ((with_reducible refine Hold.store1 HM.out 0 (c := .int .i64 0) (v' := sayV ⟨x.next, 0, x.text, x.sig⟩) rfl rfl rfl rfl rfl (say_lt x 1 (by decide)) st1 (Hold.cell_int _ _) Frm.cellInt ?_); clear HM; intro w HM; simp only [List.set_cons_zero, List.set_cons_succ] at HM; replace HM := Lib.hid HM)
        | ((with_reducible refine Hold.store1 HM.out 0 (c := .string ⟨#[]⟩) (v' := sayV y) rfl rfl rfl rfl rfl (say_lt _ 3 (by decide)) st2 ⟨rfl, rfl⟩ Frm.cellStr ?_); clear HM; intro w HM; simp only [List.set_cons_zero, List.set_cons_succ] at HM; replace HM := Lib.hid HM)
        | (with_reducible refine Hold.load HM.out 0 (cs := sayV y) rfl rfl rfl rfl (Hold.Part.all _) (sayRow _) ?_)
        | ((with_reducible refine (R1.out _ HM.out.below).mono ?_); rintro e w ⟨rfl, hb⟩; replace HM := Lib.hid (HM.out.next hb); clear hb)
        | ((with_reducible refine (RA.out _ HM.out.below).mono ?_); rintro e w ⟨rfl, hb⟩; replace HM := Lib.hid (HM.out.next hb); clear hb)))
      go_ret
      exact ⟨by simp, HM.out.below⟩
  · have tl := tail_any x C seed n (by omega) (by omega) (by omega) (fun h => absurd h (text_some _ hz)) (fun _ => hn.symm)
    have hsy := sm
    have z1 : (x.text.toList == []) = false := by
      have := text_some _ hz
      rw [ByteArray.toList_eq]
      simpa using this
    have z2 : x.text.toList.isEmpty = false := by
      have := text_some _ hz
      rw [ByteArray.toList_eq]
      simpa using this
    have z3 : decide (x.text.size = 0) = false := decide_eq_false hz
    obtain ⟨E, hE⟩ : ∃ E, E = layE x.plain C (n : Int) seed.data.toList := ⟨_, rfl⟩
    obtain ⟨X, hX⟩ : ∃ X, X = tx (layT x.plain C (n : Int) seed.data.toList) := ⟨_, rfl⟩
    have hXd : X.data.toList = layT x.plain C (n : Int) seed.data.toList := by rw [hX]
    have iC : InR C := ⟨by omega, by omega⟩
    have iN := inN n (by omega)
    have R1 := Lib.hid (fun u (hu : Below wz.heap.size wz u) => con.lay x C (n : Int) seed X E u hX hE hsy (by omega) iC iN (hl.below hu))
    rw [← hE, ← hX, ← hXd] at tl
    by_cases he : E = 0
    · obtain ⟨k1, k2, k3, k4⟩ := tl.2 he
      subst he
      have R2 := Lib.hid (fun u (hu : Below wz.heap.size wz u) => con.read X C (n : Int) x 0 u k1 k2 (by omega) iC iN (hl.below hu))
      have R3 := Lib.hid (fun u => con.long C (n : Int) u iC iN)
      have t1 : ((X.size : Int) == Frm.long C (n : Int)) = true := by rw [k3]; simp
      rw [hn] at R1 R2 R3 t1
      generalize Frm.long C (x.sig.size : Int) = LG at *
      clear tl k1 k2 k3 k4 hE hX hXd iC iN hsy hC hm hn hg hg2 sm hl hz
      go_enter Tryd.func3, Tryd.ntmps3
      go_upto_region 1 with ((with_reducible refine Hold.box HM.out rfl rfl rfl ?_); clear HM; intro bx w HM; simp only [List.nil_append, List.cons_append] at HM; replace HM := Lib.hid HM)
      have q3 : w.cell? ⟨bx, 3, none⟩ = some (.string x.sig) := (HM.out.at 0 rfl).row.cell rfl
      go_upto_region 3 with fail
      clear q3
      go_upto_region 4 with fail
      rw [HW.out]
      clear HW
      generalize (IntKind.u64.wrap cp).tmod 16 = y0
      generalize IntKind.u64.wrap cp = y1
      generalize wrap64 y0 = y2
      go_upto_region 11 with ((first
        | (with_reducible refine Hold.load1 HM.out 0 (c := .string x.sig) rfl rfl rfl rfl hx3 Frm.cellStr ?_)
        | (with_reducible refine Hold.load1 HM.out 0 (c := .string x.text) rfl rfl rfl rfl hx2 Frm.cellStr ?_)
        | (with_reducible refine Hold.load HM.out 0 (cs := sayV x) rfl rfl rfl rfl (Hold.Part.all _) (sayRow _) ?_)
        | ((with_reducible refine (R1.out _ HM.out.below).mono ?_); rintro e w ⟨rfl, hb⟩; replace HM := Lib.hid (HM.out.next hb); clear hb)
        | ((with_reducible refine (R2.out _ HM.out.below).mono ?_); rintro e w ⟨rfl, hb⟩; replace HM := Lib.hid (HM.out.next hb); clear hb)
        | ((with_reducible refine Hold.alloc HM.out rfl rfl zeroS zero_said ?_); clear HM; intro by2 w HM; simp only [List.nil_append, List.cons_append] at HM; replace HM := Lib.hid HM)
        | ((with_reducible refine Hold.store HM.out 1 (v' := sayV x) rfl rfl rfl rfl rfl (say_fits _ _) (say_laid _ _) (say_one _) (sayRow _) ?_); clear HM; intro w HM; simp only [List.set_cons_zero, List.set_cons_succ] at HM; replace HM := Lib.hid HM)))
      go_wp2_with ((first
        | ((with_reducible refine (R3.out _).mono ?_); rintro e w ⟨rfl, hb⟩; replace HM := Lib.hid (HM.out.next hb); clear hb)
        | ((with_reducible refine (RA.out _ HM.out.below).mono ?_); rintro e w ⟨rfl, hb⟩; replace HM := Lib.hid (HM.out.next hb); clear hb)
        | (refine Hold.wpList_want (by rfl) (.agg (sayV x).toArray) (Hold.load_run HM.out 0 rfl rfl rfl (Hold.Part.all _) (sayRow _)) ?_)
        | (refine Hold.wpList_want (by rfl) (.agg (sayV x).toArray) (Hold.load_run HM.out 1 rfl rfl rfl (Hold.Part.all _) (sayRow _)) ?_)
        | (refine Hold.wpList_want (by rfl) (.bool true) (said_eql x x true (same_self x).symm rfl rfl rfl _) ?_)))
      go_ret
      exact ⟨by simp, HM.out.below⟩
    · have k1 := tl.1 he
      rw [k1] at R1
      have q1 : ((E : Int) != 0) = true := by simpa using he
      have q2 : ((E : Int) == 0) = false := by simpa using he
      rw [hn] at R1
      clear tl k1 hE hX hXd iC iN hsy hC hm hn hg hg2 sm hl hz he
      go_enter Tryd.func3, Tryd.ntmps3
      go_upto_region 1 with ((with_reducible refine Hold.box HM.out rfl rfl rfl ?_); clear HM; intro bx w HM; simp only [List.nil_append, List.cons_append] at HM; replace HM := Lib.hid HM)
      have q3 : w.cell? ⟨bx, 3, none⟩ = some (.string x.sig) := (HM.out.at 0 rfl).row.cell rfl
      go_upto_region 3 with fail
      clear q3
      go_upto_region 4 with fail
      rw [HW.out]
      clear HW
      generalize (IntKind.u64.wrap cp).tmod 16 = y0
      generalize IntKind.u64.wrap cp = y1
      generalize wrap64 y0 = y2
      go_wp2_with ((first
        | (with_reducible refine Hold.load1 HM.out 0 (c := .string x.sig) rfl rfl rfl rfl hx3 Frm.cellStr ?_)
        | (with_reducible refine Hold.load1 HM.out 0 (c := .string x.text) rfl rfl rfl rfl hx2 Frm.cellStr ?_)
        | (with_reducible refine Hold.load HM.out 0 (cs := sayV x) rfl rfl rfl rfl (Hold.Part.all _) (sayRow _) ?_)
        | ((with_reducible refine (R1.out _ HM.out.below).mono ?_); rintro e w ⟨rfl, hb⟩; replace HM := Lib.hid (HM.out.next hb); clear hb)
        | ((with_reducible refine (RA.out _ HM.out.below).mono ?_); rintro e w ⟨rfl, hb⟩; replace HM := Lib.hid (HM.out.next hb); clear hb)))
      go_ret
      exact ⟨by simp, HM.out.below⟩

set_option maxHeartbeats 1600000 in
theorem lifted (con : Con) (os : Os) (started : os.Started) (H : Type) (enc : TypeId × Value → H) :
    ReturnsInHanded {} Tryd.checked os 3 .any (fun w args => (Rows.frameBackSpec.pre enc Tryd.prog Tryd.f3 [] false w args ∧ laidMetH Tryd.prog Frk.laidL w) ∧ sizedMet enc Tryd.prog Tryd.f3 (OpenSpec.ofChange Rows.frameBackSpec) false w args)
      (Rows.frameBackSpec.post enc Tryd.prog Tryd.f3 false true false false) := by
  refine returnsInHanded_of_change_and (C := Tryd.checked) (X := fun w _ => laidMetH Tryd.prog Frk.laidL w) (fun _ _ _ hh h => h.of_heap hh) Frk.own started (by kernel_rfl) Tryd.func3
    (ChangeSpec.witness_shaped (enc := enc) (C := Tryd.checked) (os := os) (X := fun w _ => laidMetH Tryd.prog Frk.laidL w) false (World.laidAll Tryd.prog os Frk.laidL) #[.agg #[.int .i64 0, .int .i64 0, .string ByteArray.empty, .string ByteArray.empty], .int .i64 0, .string ByteArray.empty] 8 (World.laidAll_os _ _ _) (Frk.table_shaped os _) (by kernel_rfl) (by kernel_rfl) (by kernel_rfl) (Frk.table_met os _)) ?_
  intro W base args ds gs before hval0 hW _ hsz0 hL _
  have hval : ∀ (j : Nat) t v, Tryd.f3.params[j]? = some t → args[j]? = some v → Value.okWide Tryd.prog W .any base t v := hval0
  have hsz : (DataW.weightsEach Tryd.prog (Tryd.f3.params.toList ++ Rows.frameBackSpec.plain.varTypes Tryd.prog) (ds ++ gs)).all (· ≤ reachBytes) = true := hsz0
  clear hsz0
  have hW' := hW
  obtain ⟨p, q, hA0, hV, rfl, hfz, hnd⟩ := hW
  have hA : DataW.TrodAll enc Tryd.prog W 0 (fun _ => true) true Tryd.f3.params.toList args.toList ds p := hA0
  rw [Tryd.params3] at hA hval hsz
  obtain ⟨v0, vs0, d0, ds0, p0, q0, hargs, rfl, rfl, h0, r0⟩ := trodAll_cons hA
  obtain ⟨v1, vs1, d1, ds1, p1, q1, rfl, rfl, rfl, h1, r1⟩ := trodAll_cons r0
  obtain ⟨v2, vs2, d2, ds2, p2, q2, rfl, rfl, rfl, h2, r2⟩ := trodAll_cons r1
  obtain ⟨rfl, rfl, rfl⟩ := trodAll_nil r2
  obtain rfl : args = #[v0, v1, v2] := by cases args; simp_all
  obtain ⟨rfl, rfl⟩ := trodVars_none hV
  have k0 := h0
  have lt0 : ∀ x ∈ p0, x.block < W.heap.size := by obtain ⟨m, hm⟩ := k0; exact DataW.trod_lt m _ _ _ hm
  obtain ⟨xn0, xq0, xt0, xs0, rfl, x0, y0, z0, u0⟩ := FrO.open_said (hval 0 23 v0 rfl rfl) h0 (fun m hm => by have := List.all_eq_true.1 hsz _ (DataW.weights_mem_each (j := 0) rfl rfl m hm); simpa using this)
  obtain ⟨a1, rfl, rfl, rfl, w1⟩ := Go.ChangeShapes.open_int Tryd.underlying3 (hval 1 3 v1 rfl rfl) h1
  obtain ⟨a2, rfl, rfl, rfl, w2⟩ := open_string Tryd.underlying9 (hval 2 9 v2 rfl rfl) h2
  have zz2 := sized_string hsz (j := 2) (t := 9) (bytes := a2.data.toList) rfl rfl
  have hcl := Frk.of_laid hL
  clear hA0 hval0
  refine (walk con ⟨xn0, xq0, xt0, xs0⟩ a1 a2 W ⟨x0, y0, z0, u0⟩ (FrO.int_wf w1) (show a2.size ≤ 140737488351232 from Nat.le_trans zz2 (by decide)) hcl).mono fun e W' ⟨he, bel⟩ => ?_
  subst he
  exact ⟨_, rfl, _, _, _, [], _, [], hW', trodAll_mk1 (shut_bool Tryd.underlying4 _), (trodAll_cons_mk (Below.trod Frk.laidOut (by kernel_rfl) (of_decide_eq_true (by kernel_rfl)) k0 bel lt0) (trodAll_cons_mk (Go.ChangeShapes.shut_int Tryd.underlying3 w1) (trodAll_cons_mk (shut_string Tryd.underlying9 w2) trodAll_mk0))), rfl, bel.frame _, fun h => by cases h⟩

theorem over (con : Con) : Rows.FrameBackSaid :=
  OpenClaim.holds_of_wide 3 Tryd.f3 rfl rfl rfl rfl rfl rfl rfl ⟨rfl, rfl, rfl, rfl, rfl⟩ rfl rfl rfl rfl rfl (by kernel_rfl) Tryd.func3 (by kernel_rfl)
    (of_decide_eq_true (by kernel_rfl)) (by unfold Func.isWrapper; first | (rw [if_pos (by decide +kernel)]; kernel_rfl) | (rw [if_neg (by decide +kernel)]; exact ⟨rfl, rfl⟩))
    (fun os started H enc _ => lifted con os started H enc)

theorem of_con (con : Con) : Rows.FrameBackCardSaid :=
  Claim7.holds_tied_plain_at .later [] [.data, .data, .data, .data, .data, .pinned] true Rows.frameBackCard.stood.harness false
    (over con) (fun _ h => by cases h) (by kernel_rfl) (fun _ h => by cases h) frameBack_row_tie rfl ⟨rfl, rfl⟩ (by kernel_rfl) rfl
    (fun f fn hf hfn => by
      obtain rfl : f = 3 := Option.some.inj ((show Tryd.prog.funcNamed "murmur/murmurlaw18.FrameBack" = some 3 by kernel_rfl).symm.trans hf) |>.symm
      obtain rfl : fn = Tryd.f3 := (Option.some.inj (Tryd.func3.symm.trans hfn)).symm
      exact ⟨by kernel_rfl, fun j t ht => by
        rw [Tryd.params3] at ht
        have hm : t ∈ [23, 3, 9] := by simpa using Array.mem_of_getElem? ht
        have hall : ([23, 3, 9].all fun u => !Tryd.prog.wantsStandIn u) = true := by kernel_rfl
        exact (show Tryd.prog.wantsStandIn t = false by simpa using List.all_eq_true.1 hall t hm)⟩)
    (by kernel_rfl)
/-- The statement. -/
theorem proved : Rows.FrameBackCardSaid := of_con Frm.con
#print axioms proved
end Go.Proofs.YtlodgomjlkpdhaaDoor.LawFBk
