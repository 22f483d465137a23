/-
  BookPerms: each number stands once in what is drawn of any tape: for every list of cells and any two numbers the law answers true and changes nothing that was there. Conditions: the listed tables hold what the program lays there; of package book the texts in this folder say how it answers (Con).
-/
import Derived.Test.YtdhipdoaefdfeaaGreatDoorBkW
import Derived.Test.YtdhipdoaefdfeaaGreatDoorBkK
import Derived.Test.YtdhipdoaefdfeaaGreatDoorBke
namespace Go.Proofs.YtdhipdoaefdfeaaGreatDoor.LawBPr
open Go.ChangeShapes Go.WideShapes Go.ChangeAt Go.RowKit Mur Prt Lanes Tap Bkl Bkm Rec Cel Bkr Bkw
open Go.ChangeMaps (open_string shut_string)
set_option maxRecDepth 100000
set_option linter.unusedSimpArgs false

theorem fit_len (s : List UInt8) (n : Int) (N : Nat) (h : max 0 n = (N : Int)) (hn : n ≤ 60) : (fit s n).length = N := by
  rw [fit, List.length_take, List.length_append, List.length_replicate]
  have : (max 0 (min n 6000)).toNat = N := by omega
  omega
/-- Which numbers were met among the first j. -/
def metV (L : List Nat) (N j : Nat) : List Value := (List.range N).map fun k => .bool (decide (k ∈ L.take j))
theorem metV_length (L : List Nat) (N j : Nat) : (metV L N j).length = N := by simp [metV]
theorem metV_zero (L : List Nat) (N : Nat) : metV L N 0 = List.replicate N (.bool false) := by
  rw [metV]
  refine List.ext_getElem? fun i => ?_
  by_cases h : i < N
  · simp [h]
  · simp [h]
theorem metV_at (L : List Nat) (N j x : Nat) (hx : x < N) (hn : x ∉ L.take j) : (metV L N j)[x]? = some (.bool false) := by
  simp [metV, hx, hn]
theorem metV_next (L : List Nat) (N j x : Nat) (hj : L[j]? = some x) (hx : x < N) : (metV L N j).set x (.bool true) = metV L N (j + 1) := by
  refine List.ext_getElem? fun i => ?_
  rw [List.getElem?_set]
  split
  · rename_i e
    subst e
    rw [metV_length, if_pos hx]
    simp only [metV, List.getElem?_map]
    rw [List.getElem?_range hx, Option.map_some, List.take_add_one, hj]
    simp
  · rename_i e
    simp only [metV, List.getElem?_map]
    by_cases h : i < N
    · rw [List.getElem?_range h, Option.map_some, Option.map_some, List.take_add_one, hj]
      simp only [Option.toList_some, List.mem_append, List.mem_singleton]
      have hne : i ≠ x := fun h => e h.symm
      simp [hne]
    · have hr : (List.range N)[i]? = none := by simp [h]
      rw [hr]
      rfl
theorem make_bool (u : World) (m : Nat) (hm : m ≤ 1000) : (Instr.makeSlice 47 (.int .i64 (m : Int)) (.int .i64 (m : Int))).run Tryz.prog u = .ok (.slice (some ⟨u.heap.size, 0, none⟩) m m) (u.alloc (.cells (List.replicate m (Value.bool false)).toArray 4)) := by
  have hi : (Tryz.prog.info? 4).map (fun i => (i.zero, i.size, i.bytes)) = some (some (.bool false), 1, 1) := by kernel_rfl
  obtain ⟨i0, hi, hz0, hz1, hz2⟩ := info_parts hi
  have h := run_make (P := Tryz.prog) u 47 4 i0 _ Tryz.underlying47 hi hz0 .i64 .i64 (m : Int) (m : Int) (by omega) (by omega) (by rw [hz2]; omega) (by omega)
  have e : madeCells #[Value.bool false] m = (List.replicate m (Value.bool false)).toArray := by
    apply Array.toList_inj.1
    rw [toList_madeCells_one]
  have hc : (Value.bool false).cells = #[Value.bool false] := rfl
  rw [hz1, hc] at h
  simp only [Int.toNat_natCast, Nat.mul_one, e] at h
  exact h

set_option maxHeartbeats 6400000 in
theorem walk (con : Con) (l : List K) (n : Nat) (a : Option Addr) (c : Nat) (ep z : Int) (w : World) (hr : CelR w a l) (hn : l.length = n) (hnm : n ≤ 9223372036854775807) (hnc : n ≤ c) (h1 : -9223372036854775808 ≤ ep ∧ ep ≤ 9223372036854775807) (h2 : -9223372036854775808 ≤ z ∧ z ≤ 9223372036854775807) (hl : Laid w) :
    Calls Tryz.prog 4 #[.slice a n c, .int .i64 ep, .int .i64 z] w fun e w' => e = .returned (.bool true) ∧ Below w.heap.size w w' := by
  have RA := Lib.hid (fun u (hu : Below w.heap.size w u) => awake_any con u (hl.below hu))
  by_cases hg : 40 < n
  · have d1 : decide (40 < (n : Int)) = true := decide_eq_true (by omega)
    have d2 : decide (40 < n) = true := decide_eq_true hg
    clear hr hn hg
    go_enter Tryz.func4, Tryz.ntmps4
    go_wp2_with ((with_reducible (refine (RA.out _ (Below.refl _ _)).mono ?_; rintro e w1 ⟨rfl, hb1⟩)))
    go_ret
    exact ⟨rfl, hb1⟩
  have d1 : decide (40 < (n : Int)) = false := decide_eq_false (by omega)
  have d2 : decide (40 < n) = false := decide_eq_false hg
  by_cases hg2 : 60 < z
  · have d3 : decide (60 < z) = true := decide_eq_true hg2
    clear hr hn hg hg2
    go_enter Tryz.func4, Tryz.ntmps4
    go_wp2_with ((with_reducible (refine (RA.out _ (Below.refl _ _)).mono ?_; rintro e w1 ⟨rfl, hb1⟩)))
    go_ret
    exact ⟨rfl, hb1⟩
  have d3 : decide (60 < z) = false := decide_eq_false hg2
  obtain ⟨N, hmax⟩ : ∃ N : Nat, max 0 z = (N : Int) := ⟨(max 0 z).toNat, by omega⟩
  have hN : N ≤ 60 := by omega
  obtain ⟨b0, hb0⟩ : ∃ b0, b0 = newB true (⟨#[]⟩ : ByteArray).data.toList (toC l) := ⟨_, rfl⟩
  obtain ⟨L, hL⟩ : ∃ L, L = Bkp.perm (cellS b0 (joined [112, 101, 114, 109] [ep]) z) := ⟨_, rfl⟩
  obtain ⟨b1, hb1⟩ : ∃ b1, b1 = cellB b0 (joined [112, 101, 114, 109] [ep]) z := ⟨_, rfl⟩
  have hcl : (cellS b0 (joined [112, 101, 114, 109] [ep]) z).length = N := by
    rw [hb0]
    exact fit_len _ _ _ hmax (by omega)
  have hLl : L.length = N := by rw [hL, Bkp.perm_length]; exact hcl
  have hLx : ∀ x ∈ L, x < N := fun x hx => by rw [hL] at hx; rw [← hcl]; exact Bkp.perm_lt _ x hx
  have hLn : ∀ j x, L[j]? = some x → x ∉ L.take j := fun j x hx => by
    have hj : j < N := by rw [← hLl]; exact (List.getElem?_eq_some_iff.1 hx).1
    rw [hL, Bkp.perm_get _ j (by rw [hcl]; exact hj)] at hx
    rw [hL, ← Option.some.inj hx]
    exact Bkp.perm_new _ j (by rw [hcl]; exact hj)
  have r0 : Room b0 40 := by rw [hb0]; exact Room.new true [] (toC l) 40 (by decide) (by rw [toC_length]; omega)
  have R0 := Lib.hid (fun u (hu : Below w.heap.size w u) => con.new true ⟨#[]⟩ l n a c b0 u hb0 (hr.below hu) hn (by omega) hnc (hl.below hu))
  have R1 := Lib.hid (fun A v u (h : BkR u b0 v A) (hu : Below w.heap.size w u) => con.perm A b0 b1 v ep z L N u hL hLl hb1 h (r0.more (by decide)) h1.1 h1.2 h2.1 h2.2 (hl.below hu))
  have RS := Lib.hid (fun u => shape_any u)
  have HX := Lib.hid (And.intro hLl (And.intro hLx hLn))
  have hmk := fun u => make_bool u N (by omega)
  rw [← metV_zero L N] at hmk
  have HMK := Lib.hid hmk
  have HM := Lib.hid (Hold.Hld.start w)
  have tyb : Hold.TyCell Tryz.prog 4 := ⟨_, Tryz.underlying4, rfl, by kernel_rfl⟩
  have HT := Lib.hid tyb
  clear hr hn hg hg2 hb0 hL hb1 hcl hLl hLx hLn r0 hmk h1 h2 hl hnm tyb
  go_enter Tryz.func4, Tryz.ntmps4
  go_upto_region 4 with ((first
    | ((with_reducible refine (RS.out _).mono ?_); rintro e w ⟨rfl, hb⟩; replace HM := Lib.hid (HM.out.next hb); clear hb)
    | ((with_reducible refine (R0.out _ HM.out.below).mono ?_); rintro e w ⟨v0, rfl, hv, hb⟩; have L0 := Lib.hid hv.len; have HV := Lib.hid (hv.mono (A' := Off []) fun k _ _ x hx => by cases hx); replace HM := Lib.hid (HM.out.next hb); clear hv hb)
    | ((with_reducible refine Hold.allocK HM.out rfl rfl zeroBk zero_bk ?_); clear HM; intro bb w hn hb HM; simp only [List.nil_append] at HM; replace HM := Lib.hid HM; replace HV := Lib.hid (HV.out.alloc (t := 30) (z := zeroBk) hn hb); clear hn hb)
    | ((with_reducible refine Hold.storeK HM.out 0 (v' := v0) rfl rfl rfl rfl rfl (bkFits HV.out.len zero_len) (bkLaid HV.out.len zero_len) HV.out.one (bkRowOf HV.out.len) ?_); clear HM; intro w hbt HM; simp only [List.set_cons_zero] at HM; replace HM := Lib.hid HM; replace HV := Lib.hid (HV.out.stored (i := 0) (z' := v0) rfl hbt); clear hbt)))
  go_upto_region 5 with ((first
    | (with_reducible refine Hold.load HM.out 0 (cs := v0) rfl rfl rfl rfl (Hold.Part.all _) (bkRowOf L0.out) ?_)
    | ((with_reducible refine (R1.out _ _ _ HV.out HM.out.below).mono ?_); rintro e w ⟨pa, pc, v1, rfl, hn, hnl, hv, hb⟩; have L1 := Lib.hid hv.len; have HN := Lib.hid (num_answered hn hnl HM.out); replace HV := Lib.hid (hv.answered HM.out); replace HM := Lib.hid (HM.out.next hb); clear hn hnl hv hb)
    | ((with_reducible refine Hold.allocK HM.out rfl rfl zeroBk zero_bk ?_); clear HM; intro bx w hn hb HM; simp only [List.nil_append, List.cons_append] at HM; replace HM := Lib.hid HM; replace HV := Lib.hid (HV.out.alloc (t := 30) (z := zeroBk) hn hb); replace HN := Lib.hid (HN.out.alloc (t := 30) (z := zeroBk) hn hb); clear hn hb)
    | ((with_reducible refine Hold.storeK HM.out 1 (v' := v1) rfl rfl rfl rfl rfl (bkFits HV.out.len zero_len) (bkLaid HV.out.len zero_len) HV.out.one (bkRowOf HV.out.len) ?_); clear HM; intro w hbt HM; simp only [List.set_cons_zero, List.set_cons_succ] at HM; replace HM := Lib.hid HM; replace HV := Lib.hid (HV.out.stored (i := 1) (z' := v1) rfl hbt); replace HN := Lib.hid (HN.out.stored (i := 1) (z' := v1) rfl hbt); clear hbt)))
  obtain ⟨w6, hw6⟩ : ∃ w6, w6 = w := ⟨w, rfl⟩
  rw [← hw6] at HM HN ⊢
  have HB6 := Lib.hid HM.out.below
  have HNR := Lib.hid HN.out.read
  have HP := Lib.hid (Hold.Hld.start w6)
  clear hw6 HM HN HV L0 L1 R0 R1 RS
  go_upto_region 6 with ((at_make; refine Hold.make HP.out rfl rfl rfl rfl HMK.out ?_; clear HP; intro mb w HP; simp only [List.nil_append] at HP; replace HP := Lib.hid HP))
  go_wp2
  go_loopw [40] (fun i wr => ∃ j : Nat, j ≤ N ∧ i = .int .i64 j ∧ Hold.Hld w6 [⟨mb, 4, metV L N j⟩] wr) (fun i _ => N - (intOf i).toNat)
  case atStart => exact ⟨0, by omega, rfl, HP.out⟩
  case round =>
    clear HP
    obtain ⟨j, hj, rfl, hp⟩ := hrel
    have HP := Lib.hid hp
    clear hp
    by_cases hlt : j < N
    · have hjl : j < L.length := by have := HX.out.1; omega
      obtain ⟨x, hx⟩ : ∃ x, L[j]? = some x := ⟨_, List.getElem?_eq_getElem hjl⟩
      obtain ⟨pb, po, rfl, hpb, hc⟩ := HNR.out (by have := HX.out.1; omega)
      have hx0 := hc j x hx 0 _ rfl
      rw [Nat.mul_one, Nat.add_zero] at hx0
      have c0 : wr.cell? ⟨pb, po + j, none⟩ = some (.int .i64 (x : Int)) := (HP.out.below.cell (p := ⟨pb, po + j, none⟩) hpb).trans hx0
      have hxN : x < N := HX.out.2.1 x (List.mem_of_getElem? hx)
      have hat := metV_at L N j x hxN (HX.out.2.2 j x hx)
      have c1 : wr.cell? ⟨mb, x, none⟩ = some (.bool false) := (HP.out.at 0 rfl).row.cell hat
      have HNX := Lib.hid (metV_next L N j x hx hxN)
      have e1 : decide ((x : Int) < 0) = false := decide_eq_false (by omega)
      have e2 : decide ((N : Int) ≤ (x : Int)) = false := decide_eq_false (by omega)
      have e3 : decide (N ≤ x) = false := decide_eq_false (by omega)
      have i0 : (x : Int) < (N : Int) := by omega
      clear hjl hx hc hx0 hpb hat
      go_wp2_with ((first
        | ((with_reducible refine Hold.store1 HP.out 0 (v' := metV L N (j + 1)) (c := .bool true) rfl rfl rfl rfl rfl (by rw [metV_length]; exact hxN) HNX.out ⟨rfl, rfl⟩ HT.out ?_); clear HP c0 c1; intro w HP; simp only [List.set_cons_zero] at HP; replace HP := Lib.hid HP)))
      go_roundw
      case rel => exact ⟨j + 1, by omega, by go_num, HP.out⟩
      case measure => simp [intOf]; omega
    · obtain rfl : j = N := by omega
      have hlt2 : ¬ ((j : Int) < (j : Int)) := by omega
      have q1 : ((j : Int) == (j : Int)) = true := by simp
      go_wp2_with ((with_reducible (refine (RA.out _ (HB6.out.trans (HP.out.below.mono HB6.out.size))).mono ?_; rintro e w9 ⟨rfl, hb9⟩; have HB9 := Lib.hid ((HB6.out.trans (HP.out.below.mono HB6.out.size)).trans (hb9.mono (HB6.out.trans (HP.out.below.mono HB6.out.size)).size)); clear hb9)))
      go_ret
      exact ⟨by simp, HB9.out⟩

set_option maxHeartbeats 1600000 in
theorem lifted (con : Con) (os : Os) (started : os.Started) (H : Type) (enc : TypeId × Value → H) :
    ReturnsInHanded {} Tryz.checked os 4 .any (fun w args => (Rows.bookPermsSpec.pre enc Tryz.prog Tryz.f4 [] false w args ∧ laidMetH Tryz.prog Bkk.laidL w) ∧ sizedMet enc Tryz.prog Tryz.f4 (OpenSpec.ofChange Rows.bookPermsSpec) false w args)
      (Rows.bookPermsSpec.post enc Tryz.prog Tryz.f4 false true false false) := by
  refine returnsInHanded_of_change_and (C := Tryz.checked) (X := fun w _ => laidMetH Tryz.prog Bkk.laidL w) (fun _ _ _ hh h => h.of_heap hh) Bkk.own started (by kernel_rfl) Tryz.func4
    (ChangeSpec.witness_shaped (enc := enc) (C := Tryz.checked) (os := os) (X := fun w _ => laidMetH Tryz.prog Bkk.laidL w) false (World.doorLaid Tryz.prog 400 os) #[.slice none 0 0, .int .i64 0, .int .i64 0] 8 rfl (World.shaped_of_RefB (by kernel_rfl) (by kernel_rfl)) (by kernel_rfl) (by kernel_rfl) (by kernel_rfl) (Bkk.door_met os _)) ?_
  intro W base args ds gs before hval0 hW _ hsz0 hL _
  have hval : ∀ (j : Nat) t v, Tryz.f4.params[j]? = some t → args[j]? = some v → Value.okWide Tryz.prog W .any base t v := hval0
  have hsz : (DataW.weightsEach Tryz.prog (Tryz.f4.params.toList ++ Rows.bookPermsSpec.plain.varTypes Tryz.prog) (ds ++ gs)).all (· ≤ reachBytes) = true := hsz0
  clear hsz0
  have hW' := hW
  obtain ⟨p, q, hA0, hV, rfl, hfz, hnd⟩ := hW
  have hA : DataW.TrodAll enc Tryz.prog W 0 (fun _ => true) true Tryz.f4.params.toList args.toList ds p := hA0
  rw [Tryz.params4] at hA hval hsz
  obtain ⟨v0, vs0, d0, ds0, p0, q0, hargs, rfl, rfl, h0, r0⟩ := trodAll_cons hA
  obtain ⟨v1, vs1, d1, ds1, p1, q1, rfl, rfl, rfl, h1, r1⟩ := trodAll_cons r0
  obtain ⟨v2, vs2, d2, ds2, p2, q2, rfl, rfl, rfl, h2, r2⟩ := trodAll_cons r1
  obtain ⟨rfl, rfl, rfl⟩ := trodAll_nil r2
  obtain rfl : args = #[v0, v1, v2] := by cases args; simp_all
  obtain ⟨rfl, rfl⟩ := trodVars_none hV
  have k0 := h0
  have lt0 : ∀ x ∈ p0, x.block < W.heap.size := by obtain ⟨m, hm⟩ := k0; exact DataW.trod_lt m _ _ _ hm
  obtain ⟨l0, n0, a0, c0, rfl, x0, y0, z0, v0, u0⟩ := TpO.open_cells (hval 0 22 v0 rfl rfl) h0
  obtain ⟨a1, rfl, rfl, rfl, w1⟩ := Go.ChangeShapes.open_int Tryz.underlying3 (hval 1 3 v1 rfl rfl) h1
  obtain ⟨a2, rfl, rfl, rfl, w2⟩ := Go.ChangeShapes.open_int Tryz.underlying3 (hval 2 3 v2 rfl rfl) h2
  have hcl := Bkk.of_laid hL
  clear hA0 hval0
  refine (walk con l0 n0 a0 c0 a1 a2 W x0 y0 z0 v0 (TpO.int_wf w1) (TpO.int_wf w2) hcl).mono fun e W' ⟨he, bel⟩ => ?_
  subst he
  exact ⟨_, rfl, _, _, _, [], _, [], hW', trodAll_mk1 (shut_bool Tryz.underlying4 _), (trodAll_cons_mk (Below.trod Bkk.laidOut (by kernel_rfl) (of_decide_eq_true (by kernel_rfl)) k0 bel lt0) (trodAll_cons_mk (Go.ChangeShapes.shut_int Tryz.underlying3 w1) (trodAll_cons_mk (Go.ChangeShapes.shut_int Tryz.underlying3 w2) trodAll_mk0))), rfl, bel.frame _, fun h => by cases h⟩

theorem over (con : Con) : Rows.BookPermsSaid :=
  OpenClaim.holds_of_wide 4 Tryz.f4 rfl rfl rfl rfl rfl rfl rfl ⟨rfl, rfl, rfl, rfl, rfl⟩ rfl rfl rfl rfl rfl (by kernel_rfl) Tryz.func4 (by kernel_rfl)
    (of_decide_eq_true (by kernel_rfl)) (by unfold Func.isWrapper; first | (rw [if_pos (by decide +kernel)]; kernel_rfl) | (rw [if_neg (by decide +kernel)]; exact ⟨rfl, rfl⟩))
    (fun os started H enc _ => lifted con os started H enc)

theorem of_con (con : Con) : Rows.BookPermsCardSaid :=
  Claim7.holds_tied_plain_at .later [] [.data, .data, .data, .data] true Rows.bookPermsCard.stood.harness false
    (over con) (fun _ h => by cases h) (by kernel_rfl) (fun _ h => by cases h) bookPerms_row_tie rfl ⟨rfl, rfl⟩ (by kernel_rfl) rfl
    (fun f fn hf hfn => by
      obtain rfl : f = 4 := Option.some.inj ((show Tryz.prog.funcNamed "murmur/murmurlaw16.BookPerms" = some 4 by kernel_rfl).symm.trans hf) |>.symm
      obtain rfl : fn = Tryz.f4 := (Option.some.inj (Tryz.func4.symm.trans hfn)).symm
      exact ⟨by kernel_rfl, fun j t ht => by
        rw [Tryz.params4] at ht
        have hm : t ∈ [22, 3, 3] := by simpa using Array.mem_of_getElem? ht
        have hall : ([22, 3, 3].all fun u => !Tryz.prog.wantsStandIn u) = true := by kernel_rfl
        exact (show Tryz.prog.wantsStandIn t = false by simpa using List.all_eq_true.1 hall t hm)⟩)
    (by kernel_rfl)
/-- The statement. -/
theorem proved : Rows.BookPermsCardSaid := of_con Bkb.con
#print axioms proved
end Go.Proofs.YtdhipdoaefdfeaaGreatDoor.LawBPr
