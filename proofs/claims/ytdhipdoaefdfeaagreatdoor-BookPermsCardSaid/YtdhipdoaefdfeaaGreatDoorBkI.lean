/-
  The library's Clone at cells, Index, Contains and Clip at issues; among of package book: what the plain mathematics of the text Bkl says (add); all memory that was there is left as it was. Conditions: no list has more than 1000000 records.
-/
import Derived.Test.YtdhipdoaefdfeaaGreatDoorBkB
import Derived.BigQuiet
import Derived.Deep.QuietTactic
import Derived.Deep.RegionLaw
namespace Go.Proofs.YtdhipdoaefdfeaaGreatDoor.Bkb
open Go.RowKit Mur Prt Lanes Tap Bkl Bkm Rec Cel Bkr
set_option maxRecDepth 100000
set_option linter.unusedSimpArgs false

/-- Cells as records. -/
def celF (x : K) : List Value := [.string x.1, .string x.2]
theorem celK : Kind Tryz.prog 22 60 2 32 [.string ⟨#[]⟩, .string ⟨#[]⟩] celF where
  und := Tryz.underlying22
  info := by kernel_rfl
  zlen := rfl
  pos := by decide
  few := by decide
  len := fun _ => rfl
  one := fun x u hu => by
    simp only [celF, List.mem_cons, List.not_mem_nil, or_false] at hu
    rcases hu with rfl | rfl <;> rfl
theorem cel_zero : (Value.agg ([.string ⟨#[]⟩, .string ⟨#[]⟩] : List Value).toArray).cells = ([.string ⟨#[]⟩, .string ⟨#[]⟩] : List Value).toArray := rfl
theorem cel_rec {w : World} {a : Option Addr} {l : List K} (h : CelR w a l) : RecR 2 celF w a l := fun hl => by
  obtain ⟨b, o, ha, hb, hc⟩ := h hl
  refine ⟨b, o, ha, hb, fun i x hx j u hu => ?_⟩
  obtain ⟨h1, h2⟩ := hc i x hx
  match j, hu with
  | 0, hu => cases hu; exact h1
  | 1, hu => cases hu; exact h2
theorem rec_cel {w : World} {a : Option Addr} {l : List K} (h : RecR 2 celF w a l) : CelR w a l := fun hl => by
  obtain ⟨b, o, ha, hb, hc⟩ := h hl
  exact ⟨b, o, ha, hb, fun i x hx => ⟨hc i x hx 0 _ rfl, hc i x hx 1 _ rfl⟩⟩

set_option maxHeartbeats 800000 in
theorem cloneL_any (l : List K) (n : Nat) (a : Option Addr) (c : Nat) (w : World) (hn : l.length = n) (hn2 : n ≤ 1000000) (ha : CelR w a l) :
    Calls Tryz.prog 19 #[.slice a n c] w fun e w' => ∃ ao co, e = .returned (.slice ao n co) ∧ n ≤ co ∧ CelR w' ao l ∧ (∀ q, ao = some q → w.heap.size ≤ q.block) ∧ Below w.heap.size w w' := by
  have HA := Lib.hid (cel_rec ha)
  have HN := Lib.hid hn
  clear ha hn
  cases a with
  | none =>
    have hl : l = [] := Classical.byContradiction fun h => by
      obtain ⟨b, o, h1, _⟩ := HA.out (fun e => h (List.eq_nil_of_length_eq_zero e))
      cases h1
    subst hl
    obtain rfl : n = 0 := HN.out.symm
    have hnil := fun u => Lib.run_eql_slice_nil (P := Tryz.prog) u 22 60 none 0 c 0 0 Tryz.underlying22
    go_enter Tryz.func19, Tryz.ntmps19
    go_wp2
    go_ret
    exact ⟨_, _, rfl, Nat.le_refl _, CelR.none _ _, (fun q hq => by cases hq), Below.refl _ _⟩
  | some a =>
    have hnil := fun u => Lib.run_eql_slice_nil (P := Tryz.prog) u 22 60 (some a) n c 0 0 Tryz.underlying22
    go_enter Tryz.func19, Tryz.ntmps19
    go_wp2_with (at_builtin; refine append_rec celK cel_zero rfl _ _ rfl w.heap.size 0 _ [] l _ n c rfl rfl (own_empty w w.heap.size (Nat.le_refl _) _) (HA.out.below ((Below.refl w.heap.size w).alloc (Nat.le_refl _) _)) HN.out (by omega) (by simp) ?_; intro v' w4 hown4 hgrow4)
    rw [List.nil_append, Nat.zero_add] at hown4
    have HW := Lib.hid (((Below.refl w.heap.size w).alloc (Nat.le_refl _) (.cells #[] 60)).grown hgrow4 (by simp) (fun q hq => by cases hq; exact Nat.le_refl _))
    obtain ⟨ao, co, rfl, -, hco, hi, hlow⟩ := own_rec celK.len celK.pos hown4
    have HI := Lib.hid (And.intro hco (And.intro (rec_cel hi) hlow))
    clear hown4 hgrow4 hco hi hlow
    go_ret
    exact ⟨ao, co, rfl, HI.out.1, HI.out.2.1, HI.out.2.2, HW.out⟩

/-- The test of Index. -/
def issIs (y x : Iss) : Bool := decide (y = x)
def eqV (y x : Iss) : Bool := ((tx y.1).toList == (tx x.1).toList) && (((tx y.2.1).toList == (tx x.2.1).toList) && ((tx y.2.2).toList == (tx x.2.2).toList))
theorem eqV_is (y x : Iss) : eqV y x = issIs y x := by
  obtain ⟨a, b, c⟩ := y
  obtain ⟨d, e, f⟩ := x
  rw [Bool.eq_iff_iff]
  unfold eqV issIs
  rw [Bool.and_eq_true, Bool.and_eq_true, eql_iff, eql_iff, eql_iff, decide_eq_true_eq]
  show (a = d ∧ b = e ∧ c = f) ↔ _
  rw [Prod.mk.injEq, Prod.mk.injEq]

set_option maxHeartbeats 1600000 in
theorem indexI_any (l : List Iss) (y : Iss) (q : Int) (n : Nat) (a : Option Addr) (c : Nat) (w : World) (hq : q = plc (issIs y) l) (hn : l.length = n) (hn2 : n ≤ 1000000) (ha : IssR w a l) :
    Calls Tryz.prog 41 #[.slice a n c, .agg #[.string (tx y.1), .string (tx y.2.1), .string (tx y.2.2)]] w fun e w' => e = .returned (.int .i64 q) ∧ Below w.heap.size w w' := by
  have HA := Lib.hid ha
  have HN := Lib.hid hn
  have HZ := Lib.hid hq
  have HE := Lib.hid (fun x => eqV_is y x)
  obtain ⟨Y1, hY1⟩ : ∃ Y, Y = tx y.1 := ⟨_, rfl⟩
  obtain ⟨Y2, hY2⟩ : ∃ Y, Y = tx y.2.1 := ⟨_, rfl⟩
  obtain ⟨Y3, hY3⟩ : ∃ Y, Y = tx y.2.2 := ⟨_, rfl⟩
  have HV : Hid (∀ x, eqV y x = ((Y1.toList == (tx x.1).toList) && ((Y2.toList == (tx x.2.1).toList) && (Y3.toList == (tx x.2.2).toList)))) := Lib.hid fun x => by rw [hY1, hY2, hY3]; rfl
  rw [← hY1, ← hY2, ← hY3]
  clear ha hn hq hY1 hY2 hY3
  go_enter Tryz.func41, Tryz.ntmps41
  go_upto_region 1 with fail
  have hB0 := (Below.refl w.heap.size w).alloc (Nat.le_refl _) (.cells #[.string Y1, .string Y2, .string Y3] 42)
  have y1 : (w.alloc (.cells #[.string Y1, .string Y2, .string Y3] 42)).cell? ⟨w.heap.size, 0, none⟩ = some (.string Y1) := by simp
  have y2 : (w.alloc (.cells #[.string Y1, .string Y2, .string Y3] 42)).cell? ⟨w.heap.size, 1, none⟩ = some (.string Y2) := by simp
  have y3 : (w.alloc (.cells #[.string Y1, .string Y2, .string Y3] 42)).cell? ⟨w.heap.size, 2, none⟩ = some (.string Y3) := by simp
  have HA0 := Lib.hid (HA.out.below hB0)
  generalize w.alloc (.cells #[.string Y1, .string Y2, .string Y3] 42) = w0 at *
  have HB0 := Lib.hid hB0
  clear hB0
  go_wp2
  go_loopw [8] (fun i wr => ∃ j k : Nat, j ≤ n ∧ i = .int .i64 j ∧ (l.take j).any (issIs y) = false ∧ wr = w0.drewN k) (fun i _ => n - (intOf i).toNat)
  case atStart => exact ⟨0, 0, by omega, rfl, rfl, rfl⟩
  case round =>
    obtain ⟨j, k, hj, rfl, hno, rfl⟩ := hrel
    have HNO := Lib.hid hno
    clear hno
    by_cases hlt : j < n
    · have hjl : j < l.length := by have := HN.out; omega
      obtain ⟨g, o, rfl, hgb, hgc⟩ := HA0.out (by omega)
      obtain ⟨x, hx⟩ : ∃ x, l[j]? = some x := ⟨_, List.getElem?_eq_getElem hjl⟩
      have c1 : w0.cell? ⟨g, o + j * 3, none⟩ = some (.string (tx x.1)) := hgc j x hx 0 _ rfl
      have c2 : w0.cell? ⟨g, o + j * 3 + 1, none⟩ = some (.string (tx x.2.1)) := hgc j x hx 1 _ rfl
      have c3 : w0.cell? ⟨g, o + j * 3 + 2, none⟩ = some (.string (tx x.2.2)) := hgc j x hx 2 _ rfl
      have hE := (HE.out x).symm.trans (HV.out x)
      obtain ⟨X1, hX1⟩ : ∃ Y, Y = tx x.1 := ⟨_, rfl⟩
      obtain ⟨X2, hX2⟩ : ∃ Y, Y = tx x.2.1 := ⟨_, rfl⟩
      obtain ⟨X3, hX3⟩ : ∃ Y, Y = tx x.2.2 := ⟨_, rfl⟩
      rw [← hX1] at c1 hE
      rw [← hX2] at c2 hE
      rw [← hX3] at c3 hE
      have HX := Lib.hid hx
      obtain ⟨B, hB⟩ : ∃ B, issIs y x = B := ⟨_, rfl⟩
      rw [hB] at hE
      have HBB := Lib.hid hB
      clear hjl hx hgb hgc hX1 hX2 hX3 hB
      have hE1 : ((Y1.toList == X1.toList) && ((Y2.toList == X2.toList) && (Y3.toList == X3.toList))) = B := hE.symm
      clear hE
      cases B with
      | false =>
        have hnx : (l.take (j + 1)).any (issIs y) = false := by
          rw [List.take_add_one, HX.out, List.any_append, HNO.out]
          simp [HBB.out]
        have HNX := Lib.hid hnx
        clear hnx
        have hq : (Y1.toList == X1.toList) = false ∨ ((Y1.toList == X1.toList) = true ∧ (Y2.toList == X2.toList) = false) ∨ ((Y1.toList == X1.toList) = true ∧ (Y2.toList == X2.toList) = true ∧ (Y3.toList == X3.toList) = false) := by
          revert hE1
          cases (Y1.toList == X1.toList) <;> cases (Y2.toList == X2.toList) <;> cases (Y3.toList == X3.toList) <;> simp
        clear hE1
        rcases hq with q1 | ⟨q1, q2⟩ | ⟨q1, q2, q3⟩
        all_goals
          go_wp2
          go_quiet (fail)
          go_wp2
          go_roundw
          case rel => exact ⟨j + 1, k + nq, by omega, by go_num, HNX.out, rfl⟩
          case measure => simp [intOf]; omega
      | true =>
        obtain rfl : q = (j : Int) := by rw [HZ.out, plc_at (issIs y) l j _ HNO.out HX.out HBB.out]
        obtain ⟨q1, q2, q3⟩ : (Y1.toList == X1.toList) = true ∧ (Y2.toList == X2.toList) = true ∧ (Y3.toList == X3.toList) = true := by
          revert hE1
          cases (Y1.toList == X1.toList) <;> cases (Y2.toList == X2.toList) <;> cases (Y3.toList == X3.toList) <;> simp
        clear hE1
        go_wp2
        go_quiet (fail)
        go_wp2
        go_ret
        exact ⟨rfl, belowN (belowN HB0.out _) _⟩
    · obtain rfl : j = n := by omega
      have ht : l.any (issIs y) = false := by have := HNO.out; rwa [List.take_of_length_le (by have := HN.out; omega)] at this
      obtain rfl : q = -1 := by rw [HZ.out, plc_none (issIs y) l ht]
      clear ht
      go_wp2
      go_ret
      exact ⟨rfl, belowN HB0.out _⟩
theorem any_mem (l : List Iss) (y : Iss) : l.any (issIs y) = decide (y ∈ l) := by
  rw [Bool.eq_iff_iff, List.any_eq_true, decide_eq_true_eq]
  constructor
  · rintro ⟨x, hx, h⟩
    rw [of_decide_eq_true h]
    exact hx
  · intro h
    exact ⟨y, h, decide_eq_true rfl⟩

set_option maxHeartbeats 800000 in
theorem contains_any (l : List Iss) (y : Iss) (B : Bool) (n : Nat) (a : Option Addr) (c : Nat) (w : World) (hB : B = decide (y ∈ l)) (hn : l.length = n) (hn2 : n ≤ 1000000) (ha : IssR w a l) :
    Calls Tryz.prog 24 #[.slice a n c, .agg #[.string (tx y.1), .string (tx y.2.1), .string (tx y.2.2)]] w fun e w' => e = .returned (.bool B) ∧ Below w.heap.size w w' := by
  obtain ⟨q, hq⟩ : ∃ q, q = plc (issIs y) l := ⟨_, rfl⟩
  have hd : decide (0 ≤ q) = B := by rw [hB, hq, plc_any, any_mem]
  have R := Lib.hid (fun u (hu : IssR u a l) => indexI_any l y q n a c u hq hn hn2 hu)
  have HA := Lib.hid ha
  clear hq hn ha hB
  generalize tx y.1 = Y1 at *
  generalize tx y.2.1 = Y2 at *
  generalize tx y.2.2 = Y3 at *
  go_enter Tryz.func24, Tryz.ntmps24
  go_upto_region 1 with fail
  have hB0 := (Below.refl w.heap.size w).alloc (Nat.le_refl _) (.cells #[.string Y1, .string Y2, .string Y3] 42)
  have y1 : (w.alloc (.cells #[.string Y1, .string Y2, .string Y3] 42)).cell? ⟨w.heap.size, 0, none⟩ = some (.string Y1) := by simp
  have y2 : (w.alloc (.cells #[.string Y1, .string Y2, .string Y3] 42)).cell? ⟨w.heap.size, 1, none⟩ = some (.string Y2) := by simp
  have y3 : (w.alloc (.cells #[.string Y1, .string Y2, .string Y3] 42)).cell? ⟨w.heap.size, 2, none⟩ = some (.string Y3) := by simp
  generalize w.alloc (.cells #[.string Y1, .string Y2, .string Y3] 42) = w0 at *
  have HB0 := Lib.hid hB0
  have R1 := Lib.hid (R.out w0 (HA.out.below hB0))
  clear hB0
  go_wp2_with ((with_reducible refine R1.out.mono ?_); rintro e w2 ⟨rfl, hb⟩; have HB := Lib.hid (HB0.out.trans (hb.mono HB0.out.size)); clear hb)
  go_ret
  exact ⟨rfl, HB.out⟩

theorem clip_run (a : Option Addr) (n c : Nat) (h : n ≤ c) (u : World) : (Instr.slice 28 (.slice a n c) none (some (.int .i64 (n : Int))) (some (.int .i64 (n : Int)))).run Tryz.prog u = .ok (.slice a n n) u := by
  rw [run_slice_hm u 28 a n c issK.und' .i64 .i64 (n : Int) (n : Int) (by omega) (by omega) (by omega), issK.elem, issK.size]
  have : ((n : Int)).toNat = n := by omega
  have e : sliced a 0 n n 3 = .slice a n n := by
    unfold sliced
    cases a with
    | none => simp
    | some x =>
      obtain ⟨b, o, sp⟩ := x
      simp [Addr.add]
  simp only [Result.andThen, this]
  exact congrArg (fun x => Result.ok x u) e
theorem clip_any (a : Option Addr) (n c : Nat) (w : World) (h : n ≤ c) :
    Calls Tryz.prog 40 #[.slice a n c] w fun e w' => e = .returned (.slice a n n) ∧ w' = w := by
  have hs := fun u => clip_run a n c h u
  go_enter Tryz.func40, Tryz.ntmps40
  go_wp2
  go_ret
  exact ⟨rfl, rfl⟩

/-- A call whose answer hangs on the world, as one step of a region that draws. -/
theorem step_call_some {P : Program} {ops : Array Oper} {o : Oper} {a : Act} {w : World} {K : Act → World → Prop} {Q : Exit → Act → World → Prop} {E : Prop} (hgd : o.guard = none) (n : FuncId) (hcall : ∀ (args : Array Value) (w : World), (callFunc n args).run P w = .ok (.enter n args) w) (xs : Array Operand) (ts : Array TypeId)
    (ho : o.op = .call { callee := .value (.func n), args := xs, argTypes := ts }) (vs : Array Value) (hv : xs.map a.eval = vs) (S : Value → World → Prop) (hc : Calls P n vs w fun e w' => ∃ v, e = .returned v ∧ S v w')
    (h : ∀ v w', S v w' → K (a.put o.dst v) w') : if Region.wanted o (yielded ops a.tmps) = true then Oper.wp P o a w K Q else E := by
  have hw : Region.wanted o (yielded ops a.tmps) = true := by simp [Region.wanted, hgd]
  rw [if_pos hw]
  unfold Oper.wp
  have hrun : (execOp a.eval o).run P w = .ok (.enter n vs) w := by
    subst hv
    simp [execOp, ho, resolve, invoke, Act.eval, Deferred.ofValue, hcall]
  rw [hrun, Oper.upon_enter]
  refine hc.mono ?_
  rintro e w' ⟨v, rfl, hs⟩
  exact h v w' hs

/-- among: one more, unless it is there. -/
theorem iss_new (W : World) (y : Iss) (Y1 Y2 Y3 : ByteArray) (t : TypeId) (h1 : Y1 = tx y.1) (h2 : Y2 = tx y.2.1) (h3 : Y3 = tx y.2.2) : IssR (W.alloc (.cells #[.string Y1, .string Y2, .string Y3] t)) (some ⟨W.heap.size, 0, none⟩) [y] := by
  rw [h1, h2, h3]
  exact RecR.new (f := issV) W y t

set_option maxHeartbeats 1600000 in
theorem among_any (l : List Iss) (y : Iss) (L : List Iss) (Y1 Y2 Y3 : ByteArray) (n : Nat) (a : Option Addr) (c : Nat) (w : World) (h1 : Y1 = tx y.1) (h2 : Y2 = tx y.2.1) (h3 : Y3 = tx y.2.2) (hL : L = add l y) (hn : l.length = n) (hn2 : n ≤ 1000) (hc : n ≤ c) (ha : IssR w a l) :
    Calls Tryz.prog 23 #[.slice a n c, .agg #[.string Y1, .string Y2, .string Y3]] w fun e w' => ∃ ao co, e = .returned (.slice ao L.length co) ∧ L.length ≤ co ∧ IssR w' ao L ∧ (∀ q, ao = some q → w.heap.size ≤ q.block ∨ (a = some q ∧ l.length ≠ 0)) ∧ Below w.heap.size w w' := by
  obtain ⟨B, hB⟩ : ∃ B, B = decide (y ∈ l) := ⟨_, rfl⟩
  have R1 := Lib.hid (fun u (hu : IssR u a l) => show Calls Tryz.prog 24 #[.slice a n c, .agg #[.string Y1, .string Y2, .string Y3]] u _ from by rw [h1, h2, h3]; exact contains_any l y B n a c u hB hn (by omega) hu)
  have R2 := Lib.hid (fun u => clip_any a n c u hc)
  have HA := Lib.hid ha
  have HN := Lib.hid hn
  have HC := Lib.hid hc
  have HY := Lib.hid (fun (W : World) (t : TypeId) => iss_new W y Y1 Y2 Y3 t h1 h2 h3)
  have hB0 := (Below.refl w.heap.size w).alloc (Nat.le_refl _) (.cells #[.string Y1, .string Y2, .string Y3] 42)
  have y1 : (w.alloc (.cells #[.string Y1, .string Y2, .string Y3] 42)).cell? ⟨w.heap.size, 0, none⟩ = some (.string Y1) := by simp
  have y2 : (w.alloc (.cells #[.string Y1, .string Y2, .string Y3] 42)).cell? ⟨w.heap.size, 1, none⟩ = some (.string Y2) := by simp
  have y3 : (w.alloc (.cells #[.string Y1, .string Y2, .string Y3] 42)).cell? ⟨w.heap.size, 2, none⟩ = some (.string Y3) := by simp
  have hlt : w.heap.size < (w.alloc (.cells #[.string Y1, .string Y2, .string Y3] 42)).heap.size := by simp
  clear hn ha hc h1 h2 h3
  go_enter Tryz.func23, Tryz.ntmps23
  go_upto_region 1 with fail
  generalize w.alloc (.cells #[.string Y1, .string Y2, .string Y3] 42) = w0 at *
  have HB0 := Lib.hid hB0
  have HLT := Lib.hid hlt
  have R1' := Lib.hid (R1.out w0 (HA.out.below hB0))
  clear hB0 hlt
  have HCC := Lib.hid (fun (u : World) (hu : Below w0.heap.size w0 u) => And.intro ((hu.cell (p := ⟨w.heap.size, 0, none⟩) HLT.out).trans y1) (And.intro ((hu.cell (p := ⟨w.heap.size, 1, none⟩) HLT.out).trans y2) ((hu.cell (p := ⟨w.heap.size, 2, none⟩) HLT.out).trans y3)))
  cases B with
  | true =>
    have hmem : y ∈ l := of_decide_eq_true hB.symm
    have hLl : L = l := by rw [hL, add, if_pos hmem]
    have HNE := Lib.hid (show l.length ≠ 0 from fun e => by rw [List.eq_nil_of_length_eq_zero e] at hmem; cases hmem)
    clear hmem
    subst hLl
    clear hB hL
    go_wp2_with ((with_reducible refine R1'.out.mono ?_); rintro e w2 ⟨rfl, hb⟩; have HB := Lib.hid (HB0.out.trans (hb.mono HB0.out.size)); clear hb)
    go_ret
    obtain rfl := HN.out
    exact ⟨a, c, rfl, HC.out, HA.out.below HB.out, fun q hq => Or.inr ⟨hq, HNE.out⟩, HB.out⟩
  | false =>
    have hLl : L = l ++ [y] := by rw [hL, add, if_neg (of_decide_eq_false hB.symm)]
    clear hB hL
    go_upto_region 3 with ((with_reducible refine R1'.out.mono ?_); rintro e w2 ⟨rfl, hb⟩; have HB1 := Lib.hid hb; clear hb)
    obtain ⟨x1, x2, x3⟩ := HCC.out _ HB1.out
    clear y1 y2 y3
    have HB2 := Lib.hid (HB0.out.trans (HB1.out.mono HB0.out.size))
    have HA2 := Lib.hid (HA.out.below (HB2.out.trans (((Below.refl w2.heap.size w2).drew.alloc (Nat.le_refl _) (.cells #[.string Y1, .string Y2, .string Y3] 42)).mono HB2.out.size)))
    have HY2 : Hid (IssR (w2.drew.alloc (.cells #[.string Y1, .string Y2, .string Y3] 42)) (some ⟨w2.heap.size, 0, none⟩) [y]) := Lib.hid (HY.out w2.drew _)
    have HB3 := Lib.hid (HB2.out.trans (((Below.refl w2.heap.size w2).drew.alloc (Nat.le_refl _) (.cells #[.string Y1, .string Y2, .string Y3] 42)).mono HB2.out.size))
    clear HY HCC HB1
    go_region_law ((first
      | (refine step_call_some rfl 40 Tryz.call40 #[.tmp 9] #[28] rfl #[.slice a n c] (by first | (simp [Act.eval]; done) | simp [Act.eval, Act.put]) (fun u w' => u = .slice a n n ∧ w' = _) ((R2.out _).mono (fun e w' hh => ⟨_, hh.1, rfl, hh.2⟩)) ?_; rintro u w6 ⟨rfl, rfl⟩)
      | (refine step_append_clip issK iss_zero rfl _ _ rfl rfl rfl HA2.out HN.out (by omega) HY2.out ?_; intro v' w7 hown hb7)))
    all_goals
      obtain ⟨ao, co, rfl, hl2, hco, hi, hlow⟩ := own_rec issK.len issK.pos hown
      have HI := Lib.hid (And.intro hl2 (And.intro hco (And.intro hi hlow)))
      have HB7 := Lib.hid hb7
      clear hown hl2 hco hi hlow hb7 x1 x2 x3
      go_wp2
      go_ret
      have e0 : n + 1 = L.length := by rw [hLl]; exact HI.out.1
      rw [← e0]
      refine ⟨ao, co, rfl, HI.out.2.1, by rw [hLl]; exact HI.out.2.2.1, fun q hq => Or.inl (Nat.le_trans HB3.out.size (HI.out.2.2.2 q hq)), HB3.out.trans (HB7.out.mono HB3.out.size)⟩
end Go.Proofs.YtdhipdoaefdfeaaGreatDoor.Bkb
