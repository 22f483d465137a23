/-
  Rows of package book in memory: an append of one record onto a row without room, whatever the record; the library's Clone, IndexFunc, Index, Contains and Clip at book's records; countAt, Count, counted and among: what the plain mathematics of the texts Bkl and Bkm says; all memory that was there is left as it was. Conditions: no list has more than 1000 records.
-/
import Derived.Test.YtdhipdoaefdfeaaGreatDoorBkC
import Derived.Shelf.Abstract
import Derived.Lib.SliceRun
import Derived.ArgAppend
namespace Go.Proofs.YtdhipdoaefdfeaaGreatDoor.Rec
open Go.RowKit Mur
section
variable {P : Program} {T E : TypeId} {sz bytes : Nat} {z : List Value} {α : Type} {f : α → List Value}
/-- An append of one record onto a row that has no room, whosever it is: a new row. -/
theorem run_append_clip (K : Kind P T E sz bytes z f) (hz : (Value.agg z.toArray).cells = z.toArray) {W : World} {l : List α} {ao : Option Addr} {n g : Nat} {x : α} (ty : TypeId) (hr : RecR sz f W ao l) (hn : l.length = n) (hn2 : n ≤ 1000000) (hx : RecR sz f W (some ⟨g, 0, none⟩) [x]) :
    ∃ v' w', (Builtin.append_ #[T, T] ty #[.slice ao n n, .slice (some ⟨g, 0, none⟩) 1 1]).run P W = .ok v' w' ∧ w'.ownsRow W.heap.size E sz v' (n + 1) (rowV f (l ++ [x])) ∧ Below W.heap.size W w' := by
  obtain ⟨i0, hi, hz0, hz1, hz2⟩ := K.parts
  have hbs : (n + 1) * bytes ≤ 1000001 * 1000 := Nat.mul_le_mul (by omega) K.few
  obtain ⟨b, o, he, _, hc⟩ := hx.cells K.len K.pos (by simp)
  obtain ⟨rfl, rfl⟩ : g = b ∧ 0 = o := by cases he; exact ⟨rfl, rfl⟩
  have hnews : ∀ j u, (rowV f [x])[j]? = some u → W.cell? ((⟨g, 0, none⟩ : Addr).add j) = some u := fun j u hu => by
    rw [Go.WideShapes.add_plain]
    exact hc j u hu
  subst hn
  cases ao with
  | none =>
    have h0 : l = [] := Classical.byContradiction fun h => by
      obtain ⟨b, o, h1, _⟩ := hr (fun e => h (List.eq_nil_of_length_eq_zero e))
      cases h1
    subst h0
    obtain ⟨v', w', hrun, r1, r2, _⟩ := run_append_own (P := P) W W.heap.size T ty E i0 (.agg z.toArray) sz bytes K.und hi hz0 hz1 hz2 (K.zcells hz) K.pos (.slice none 0 0) 0 (rowV f []) (own_start W _ E) ⟨g, 0, none⟩ 1 1 (rowV f [x]) (rowV_length K.len [x]) hnews (rowV_ones K.one [x]) (by unfold maxLen; omega) (by simp at hbs ⊢; omega) (Nat.le_refl _)
    refine ⟨v', w', hrun, ?_, (Below.refl _ _).grown r2 (Nat.le_refl _) (fun q hq => by cases hq)⟩
    rw [← rowV_append] at r1
    simpa using r1
  | some a =>
    have holds : ∀ j u, (rowV f l)[j]? = some u → W.cell? (a.add j) = some u := fun j u hu => by
      by_cases h0 : l.length = 0
      · obtain rfl := List.eq_nil_of_length_eq_zero h0
        cases hu
      · obtain ⟨b, o, hb, _, hcl⟩ := hr.cells K.len K.pos h0
        cases hb
        rw [Go.WideShapes.add_plain]
        exact hcl j u hu
    obtain ⟨v', w', hrun, r1, r2⟩ := run_append_arg_grows (P := P) W T ty E i0 (.agg z.toArray) sz bytes K.und hi hz0 hz1 hz2 (K.zcells hz) K.pos a l.length l.length (rowV f l) (rowV_length K.len l) holds ⟨g, 0, none⟩ 1 1 (rowV f [x]) (rowV_length K.len [x]) hnews (by omega) (by unfold maxLen; omega) (by omega)
    refine ⟨v', w', hrun, ?_, (Below.refl _ _).grown r2 (Nat.le_refl _) (fun q hq => by cases hq)⟩
    rw [← rowV_append] at r1
    exact r1
theorem step_append_clip (K : Kind P T E sz bytes z f) (hz : (Value.agg z.toArray).cells = z.toArray) {ops : Array Oper} {o : Oper} {a : Act} {W : World} {K' : Act → World → Prop} {Q : Exit → Act → World → Prop} {E' : Prop} (hgd : o.guard = none) (s x : Operand)
    (ho : o.op = .call { callee := .builtin .append, args := #[s, x], argTypes := #[T, T] }) {l : List α} {ao : Option Addr} {n g : Nat} {y : α} (hs : a.eval s = .slice ao n n) (hx : a.eval x = .slice (some ⟨g, 0, none⟩) 1 1)
    (hr : RecR sz f W ao l) (hn : l.length = n) (hn2 : n ≤ 1000000) (hy : RecR sz f W (some ⟨g, 0, none⟩) [y])
    (h : ∀ v' w', w'.ownsRow W.heap.size E sz v' (n + 1) (rowV f (l ++ [y])) → Below W.heap.size W w' → K' (a.put o.dst v') w') : if Region.wanted o (yielded ops a.tmps) = true then Oper.wp P o a W K' Q else E' := by
  have hw : Region.wanted o (yielded ops a.tmps) = true := by simp [Region.wanted, hgd]
  rw [if_pos hw]
  obtain ⟨v', w', hrun, r1, r2⟩ := run_append_clip K hz o.type hr hn hn2 hy
  unfold Oper.wp
  simp [execOp, ho, resolve, invoke, builtin, hs, hx, hrun, Result.andThen]
  exact h v' w' r1 r2
/-- The place of the first record of which the test holds, or -1. -/
def plc (p : α → Bool) : List α → Int
  | [] => -1
  | x :: l => if p x = true then 0 else if plc p l < 0 then -1 else plc p l + 1
theorem plc_cases (p : α → Bool) (l : List α) : (plc p l = -1 ∧ ∀ x ∈ l, p x = false) ∨ ∃ (k : Nat) (x : α), plc p l = (k : Int) ∧ k < l.length ∧ l[k]? = some x ∧ p x = true ∧ ∀ y ∈ l.take k, p y = false := by
  induction l with
  | nil => exact .inl ⟨rfl, fun x hx => by cases hx⟩
  | cons x l ih =>
    unfold plc
    by_cases hx : p x = true
    · rw [if_pos hx]
      exact .inr ⟨0, x, rfl, by simp, rfl, hx, fun y hy => by simp at hy⟩
    · rw [if_neg hx]
      have hxf : p x = false := by simpa using hx
      rcases ih with ⟨h1, h2⟩ | ⟨k, z, h1, h2, h3, h4, h5⟩
      · rw [h1, if_pos (by decide)]
        refine .inl ⟨rfl, fun y hy => ?_⟩
        rcases List.mem_cons.1 hy with rfl | hy
        · exact hxf
        · exact h2 y hy
      · rw [h1, if_neg (by omega)]
        refine .inr ⟨k + 1, z, by omega, by rw [List.length_cons]; omega, by simpa using h3, h4, fun y hy => ?_⟩
        rw [List.take_succ_cons] at hy
        rcases List.mem_cons.1 hy with rfl | hy
        · exact hxf
        · exact h5 y hy
theorem plc_at (p : α → Bool) (l : List α) (j : Nat) (x : α) (h0 : (l.take j).any p = false) (hx : l[j]? = some x) (hp : p x = true) : plc p l = (j : Int) := by
  induction l generalizing j with
  | nil => simp at hx
  | cons y l ih =>
    unfold plc
    cases j with
    | zero =>
      simp at hx
      subst hx
      rw [if_pos hp]
      rfl
    | succ j =>
      rw [List.take_succ_cons, List.any_cons, Bool.or_eq_false_iff] at h0
      rw [if_neg (by rw [h0.1]; decide), ih j h0.2 (by simpa using hx), if_neg (by omega)]
      omega
theorem plc_none (p : α → Bool) (l : List α) (h : l.any p = false) : plc p l = -1 := by
  induction l with
  | nil => rfl
  | cons y l ih =>
    rw [List.any_cons, Bool.or_eq_false_iff] at h
    rw [plc, if_neg (by rw [h.1]; decide), ih h.2, if_pos (by decide)]
theorem plc_any (p : α → Bool) (l : List α) : decide (0 ≤ plc p l) = l.any p := by
  rcases plc_cases p l with ⟨h1, h2⟩ | ⟨k, x, h1, h2, h3, h4, -⟩
  · rw [h1]
    have : l.any p = false := List.any_eq_false.2 fun x hx => by rw [h2 x hx]; decide
    rw [this]
    rfl
  · rw [h1]
    have : l.any p = true := List.any_eq_true.2 ⟨x, List.mem_of_getElem? h3, h4⟩
    rw [this]
    exact decide_eq_true (by omega)
end
end Go.Proofs.YtdhipdoaefdfeaaGreatDoor.Rec
namespace Go.Proofs.YtdhipdoaefdfeaaGreatDoor.Bkb
open Go.RowKit Mur Prt Lanes Tap Bkl Bkm Rec Cel Bkr
set_option maxRecDepth 100000
set_option linter.unusedSimpArgs false

/-- The test of countAt. -/
def whoIs (who : ByteArray) (x : List UInt8 × Nat) : Bool := (tx x.1).toList == who.toList
theorem whoIs_iff (who : ByteArray) (x : List UInt8 × Nat) : whoIs who x = true ↔ x.1 = who.data.toList := eql_iff _ _
theorem whoIs_no (who : ByteArray) (x : List UInt8 × Nat) (h : whoIs who x = false) : x.1 ≠ who.data.toList := fun e => by
  rw [(whoIs_iff who x).2 e] at h
  cases h
theorem count_none (l : List (List UInt8 × Nat)) (who : ByteArray) (h : ∀ x ∈ l, whoIs who x = false) : count l who.data.toList = 0 ∧ counted l who.data.toList = l ++ [(who.data.toList, 1)] := by
  induction l with
  | nil => exact ⟨rfl, rfl⟩
  | cons x l ih =>
    have h1 := whoIs_no who x (h x List.mem_cons_self)
    obtain ⟨i1, i2⟩ := ih fun y hy => h y (List.mem_cons_of_mem _ hy)
    rw [count, if_neg h1, counted, if_neg h1, i2]
    exact ⟨i1, rfl⟩
theorem count_some (l : List (List UInt8 × Nat)) (who : ByteArray) (k : Nat) (x : List UInt8 × Nat) (hx : l[k]? = some x) (hs : whoIs who x = true) (h : ∀ y ∈ l.take k, whoIs who y = false) : count l who.data.toList = x.2 ∧ counted l who.data.toList = l.set k (x.1, x.2 + 1) := by
  induction l generalizing k with
  | nil => simp at hx
  | cons y l ih =>
    cases k with
    | zero =>
      simp at hx
      subst hx
      have h1 := (whoIs_iff who y).1 hs
      rw [count, if_pos h1, counted, if_pos h1]
      exact ⟨rfl, rfl⟩
    | succ k =>
      have h1 := whoIs_no who y (h y (by simp))
      obtain ⟨i1, i2⟩ := ih k (by simpa using hx) (fun z hz => h z (by rw [List.take_succ_cons]; exact List.mem_cons_of_mem _ hz))
      rw [count, if_neg h1, counted, if_neg h1, i1, i2]
      exact ⟨rfl, rfl⟩

set_option maxHeartbeats 1600000 in
theorem indexC_any (l : List (List UInt8 × Nat)) (p : List UInt8 × Nat → Bool) (q : Int) (kf : Nat) (caps : Array Value) (n : Nat) (a : Option Addr) (c : Nat) (w : World) (hq : q = plc p l) (hn : l.length = n) (hn2 : n ≤ 1000000) (ha : CntR w a l) (hE : Enters Tryz.prog kf)
    (hk : ∀ x ∈ l, ∀ u, Below w.heap.size w u → Calls Tryz.prog kf (#[.agg #[.string (tx x.1), .int .i64 (x.2 : Int)]] ++ caps) u fun e w' => e = .returned (.bool (p x)) ∧ Below u.heap.size u w') :
    Calls Tryz.prog 47 #[.slice a n c, .func (.func kf) #[] caps] w fun e w' => e = .returned (.int .i64 q) ∧ Below w.heap.size w w' := by
  have HA := Lib.hid ha
  have HN := Lib.hid hn
  have HK := Lib.hid hk
  have HZ := Lib.hid hq
  clear ha hn hk hq
  go_enter Tryz.func47, Tryz.ntmps47
  go_wp2
  go_loopw [8] (fun i wr => ∃ j : Nat, j ≤ n ∧ i = .int .i64 j ∧ (l.take j).any p = false ∧ Below w.heap.size w wr) (fun i _ => n - (intOf i).toNat)
  case atStart => exact ⟨0, by omega, rfl, rfl, Below.refl _ _⟩
  case round =>
    obtain ⟨j, hj, rfl, hno, hbel⟩ := hrel
    have HW := Lib.hid hbel
    have HNO := Lib.hid hno
    clear hbel hno
    by_cases hlt : j < n
    · have hjl : j < l.length := by have := HN.out; omega
      obtain ⟨g, o, rfl, hgb, hgc⟩ := HA.out (by omega)
      obtain ⟨x, hx⟩ : ∃ x, l[j]? = some x := ⟨_, List.getElem?_eq_getElem hjl⟩
      have R0 := HK.out _ (List.mem_of_getElem? hx) wr HW.out
      have f1 := hgc j x hx 0 _ rfl
      have f2 := hgc j x hx 1 _ rfl
      obtain ⟨xa, hxa⟩ : ∃ xa, xa = tx x.1 := ⟨_, rfl⟩
      obtain ⟨xd, hxd⟩ : ∃ xd : Int, xd = (x.2 : Int) := ⟨_, rfl⟩
      rw [← hxa] at f1 R0
      rw [← hxd] at f2 R0
      have c1 : wr.cell? ⟨g, o + j * 2, none⟩ = some (.string xa) := (HW.out.cell (p := ⟨g, o + j * 2, none⟩) hgb).trans f1
      have c2 : wr.cell? ⟨g, o + j * 2 + 1, none⟩ = some (.int .i64 xd) := (HW.out.cell (p := ⟨g, o + j * 2 + 1, none⟩) hgb).trans f2
      have R1 := Lib.hid R0
      have HX := Lib.hid hx
      have he : ∀ u, (callFunc kf (#[.agg #[.string xa, .int .i64 xd]] ++ caps)).run Tryz.prog u = .ok (.enter kf (#[.agg #[.string xa, .int .i64 xd]] ++ caps)) u := fun u => hE _ u
      clear hjl hx hgb hgc f1 f2 R0 hxa hxd
      go_wp2_with fail
      clear he
      refine R1.out.mono ?_
      rintro e w3 ⟨rfl, hb3⟩
      have HW3 := Lib.hid (HW.out.trans (hb3.mono HW.out.size))
      clear hb3 R1 c1 c2
      cases hp : p x with
      | false =>
        have hnx : (l.take (j + 1)).any p = false := by
          rw [List.take_add_one, HX.out, List.any_append, HNO.out]
          simp [hp]
        clear hp
        go_wp2
        go_roundw
        case rel => exact ⟨j + 1, by omega, by go_num, hnx, HW3.out⟩
        case measure => simp [intOf]; omega
      | true =>
        obtain rfl : q = (j : Int) := by rw [HZ.out, plc_at p l j _ HNO.out HX.out hp]
        clear hp
        go_wp2
        go_ret
        exact ⟨rfl, HW3.out⟩
    · obtain rfl : j = n := by omega
      have ht : l.any p = false := by have := HNO.out; rwa [List.take_of_length_le (by have := HN.out; omega)] at this
      obtain rfl : q = -1 := by rw [HZ.out, plc_none p l ht]
      clear ht
      go_wp2
      go_ret
      exact ⟨rfl, HW.out⟩

theorem at1_any (x : List UInt8 × Nat) (who : ByteArray) (b : Nat) (w : World) (hb : b < w.heap.size) (hc : w.cell? ⟨b, 0, none⟩ = some (.string who)) :
    Calls Tryz.prog 48 #[.agg #[.string (tx x.1), .int .i64 (x.2 : Int)], .pointer (some ⟨b, 0, none⟩)] w fun e w' => e = .returned (.bool (whoIs who x)) ∧ Below w.heap.size w w' := by
  obtain ⟨B, hB⟩ : ∃ B, B = whoIs who x := ⟨_, rfl⟩
  have hq : ((tx x.1).toList == who.toList) = B := hB.symm
  rw [← hB]
  clear hB
  generalize tx x.1 = A at *
  generalize (x.2 : Int) = D at *
  have hcn : (w.alloc (.cells #[.string A, .int .i64 D] 73)).cell? ⟨b, 0, none⟩ = some (.string who) := (((Below.refl w.heap.size w).alloc (Nat.le_refl _) (.cells #[.string A, .int .i64 D] 73)).cell (p := ⟨b, 0, none⟩) hb).trans hc
  have HB := Lib.hid ((Below.refl w.heap.size w).alloc (Nat.le_refl _) (.cells #[.string A, .int .i64 D] 73))
  go_enter Tryz.func48, Tryz.ntmps48
  go_wp2
  go_ret
  exact ⟨rfl, HB.out⟩
theorem enters_at : Enters Tryz.prog 48 := enters_of Tryz.func48 (by kernel_rfl) rfl

set_option maxHeartbeats 1600000 in
theorem countAt_any (l : List (List UInt8 × Nat)) (who : ByteArray) (q : Int) (n : Nat) (a : Option Addr) (c : Nat) (w : World) (hq : q = plc (whoIs who) l) (hn : l.length = n) (hn2 : n ≤ 1000000) (ha : CntR w a l) :
    Calls Tryz.prog 26 #[.slice a n c, .string who] w fun e w' => e = .returned (.int .i64 q) ∧ Below w.heap.size w w' := by
  have hmf : ∀ (fn : Fn) (first cap : Array Value) (w : World), (Instr.makeFunc fn first cap).run Tryz.prog w = .ok (.func fn first cap) w := fun _ _ _ _ => rfl
  have hb0 := (Below.refl w.heap.size w).alloc (Nat.le_refl _) (.cells #[.string who] 9)
  have hc : (w.alloc (.cells #[.string who] 9)).cell? ⟨w.heap.size, 0, none⟩ = some (.string who) := by simp [World.cell?_alloc_new]
  have hlt : w.heap.size < (w.alloc (.cells #[.string who] 9)).heap.size := by simp
  have R := Lib.hid (indexC_any l (whoIs who) q 48 #[.pointer (some ⟨w.heap.size, 0, none⟩)] n a c _ hq hn hn2 (ha.below hb0) enters_at (fun x _ u hu => at1_any x who w.heap.size u (Nat.lt_of_lt_of_le hlt hu.size) ((hu.cell (p := ⟨w.heap.size, 0, none⟩) hlt).trans hc)))
  have HB := Lib.hid hb0
  clear hb0 hc hlt hq hn ha
  go_enter Tryz.func26, Tryz.ntmps26
  go_wp2_with fail
  refine R.out.mono ?_
  rintro e w1 ⟨rfl, hb1⟩
  have HB1 := Lib.hid (HB.out.trans (hb1.mono HB.out.size))
  clear hb1
  go_wp2
  go_ret
  exact ⟨rfl, HB1.out⟩

/-- Clone, of counts. -/
theorem cnt_zero : (Value.agg ([.string ⟨#[]⟩, .int .i64 0] : List Value).toArray).cells = ([.string ⟨#[]⟩, .int .i64 0] : List Value).toArray := rfl
theorem iss_zero : (Value.agg ([.string ⟨#[]⟩, .string ⟨#[]⟩, .string ⟨#[]⟩] : List Value).toArray).cells = ([.string ⟨#[]⟩, .string ⟨#[]⟩, .string ⟨#[]⟩] : List Value).toArray := rfl
set_option maxHeartbeats 800000 in
theorem cloneC_any (l : List (List UInt8 × Nat)) (n : Nat) (a : Option Addr) (c : Nat) (w : World) (hn : l.length = n) (hn2 : n ≤ 1000000) (ha : CntR w a l) :
    Calls Tryz.prog 39 #[.slice a n c] w fun e w' => ∃ v, e = .returned v ∧ w'.ownsRow w.heap.size 73 2 v n (rowV cntV l) ∧ Below w.heap.size w w' := by
  have HA := Lib.hid ha
  have HN := Lib.hid hn
  clear ha hn
  cases a with
  | none =>
    have hl : l = [] := Classical.byContradiction fun h => by
      obtain ⟨b, o, h1, _⟩ := HA.out (fun e => h (List.eq_nil_of_length_eq_zero e))
      cases h1
    subst hl
    obtain rfl : n = 0 := HN.out.symm
    have hnil := fun u => Lib.run_eql_slice_nil (P := Tryz.prog) u 27 73 none 0 c 0 0 Tryz.underlying27
    go_enter Tryz.func39, Tryz.ntmps39
    go_wp2
    go_ret
    exact ⟨_, rfl, Rec.own_start w _ _, Below.refl _ _⟩
  | some a =>
    have hnil := fun u => Lib.run_eql_slice_nil (P := Tryz.prog) u 27 73 (some a) n c 0 0 Tryz.underlying27
    go_enter Tryz.func39, Tryz.ntmps39
    go_wp2_with (at_builtin; refine append_rec cntK cnt_zero rfl _ _ rfl w.heap.size 0 _ [] l _ n c rfl rfl (own_empty w w.heap.size (Nat.le_refl _) _) (HA.out.below ((Below.refl w.heap.size w).alloc (Nat.le_refl _) _)) HN.out (by omega) (by simp) ?_; intro v' w4 hown4 hgrow4)
    rw [List.nil_append, Nat.zero_add] at hown4
    have HW := Lib.hid (((Below.refl w.heap.size w).alloc (Nat.le_refl _) (.cells #[] 73)).grown hgrow4 (by simp) (fun q hq => by cases hq; exact Nat.le_refl _))
    have HO := Lib.hid hown4
    clear hown4 hgrow4
    go_ret
    exact ⟨_, rfl, HO.out, HW.out⟩
end Go.Proofs.YtdhipdoaefdfeaaGreatDoor.Bkb
