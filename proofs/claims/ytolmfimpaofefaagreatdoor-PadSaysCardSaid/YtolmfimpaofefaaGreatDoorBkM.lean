/-
  What was used, as a map (places of package book): of each name the place where it stands first; the library's slices.Backward, whose loop it is. All memory that was there is left as it was. Conditions: no list has more than 1000000 cells, no name more than 2^47 - 2^11 bytes.
-/
import Derived.Test.YtolmfimpaofefaaGreatDoorMBkB
import Derived.RangeFuncNested
import Derived.RangeFuncBound
import Derived.RangeFuncCalls
import Derived.RangeFuncLeaves
import Derived.RangeFuncBox
import Derived.Shelf.Abstract
import Derived.Shelf.RegionOpen
import Derived.WalkKit
import Derived.OwnWalkIn
import Derived.TacticsInMore
import Derived.LoopNIn
import Derived.LoopIn
import Derived.Maps.OwnIn
import Derived.Maps.OwnSet
import Derived.Maps.Views
import Derived.StringKeys
namespace Go.Proofs.YtolmfimpaofefaaGreatDoor.Bkp2
open Go.RowKit Go.Shelf Mur Tap Cel Go.Maps
set_option maxRecDepth 100000
set_option linter.unusedSimpArgs false
attribute [local go_sem] Oper.semAt_some

/-- A cell and its place; its name may be a key. -/
abbrev PX := { x : Nat × K // x.2.1.size ≤ maxLen ∧ x.1 ≤ 1000000 }
/-- The first from place i on of that name. -/
def first (s : List UInt8) : List K → Nat → Option Nat
  | [], _ => none
  | x :: l, i => if x.1.data.toList = s then some i else first s l (i + 1)
theorem first_none (s : List UInt8) (l : List K) (i : Nat) (h : first s l i = none) : get (toC l) s = none := by
  induction l generalizing i with
  | nil => rfl
  | cons x l ih =>
    rw [first] at h
    show get ((x.1.data.toList, x.2.data.toList) :: toC l) s = none
    split at h
    · cases h
    · rename_i hx
      rw [RTap.get_cons, if_neg hx]
      exact ih _ h
theorem first_some (s : List UInt8) (l : List K) (i j : Nat) (h : first s l i = some j) : i ≤ j ∧ j < i + l.length ∧ ∃ x, l[j - i]? = some x ∧ get (toC l) s = some x.2.data.toList := by
  induction l generalizing i with
  | nil => cases h
  | cons x l ih =>
    rw [first] at h
    split at h
    · rename_i hx
      cases h
      refine ⟨Nat.le_refl _, by simp, x, by simp, ?_⟩
      show get ((x.1.data.toList, x.2.data.toList) :: toC l) s = _
      rw [RTap.get_cons, if_pos hx]
    · rename_i hx
      obtain ⟨h1, h2, y, h3, h4⟩ := ih _ h
      refine ⟨by omega, by rw [List.length_cons]; omega, y, ?_, ?_⟩
      · rw [show j - i = (j - (i + 1)) + 1 by omega, List.getElem?_cons_succ]
        exact h3
      · show get ((x.1.data.toList, x.2.data.toList) :: toC l) s = _
        rw [RTap.get_cons, if_neg hx]
        exact h4
/-- What so many have told of a name. -/
def look (pre : List PX) (s : List UInt8) : Option Nat := pre.foldl (fun acc x => if x.1.2.1.data.toList = s then some x.1.1 else acc) none
theorem look_snoc (pre : List PX) (x : PX) (s : List UInt8) : look (pre ++ [x]) s = if x.1.2.1.data.toList = s then some x.1.1 else look pre s := by simp [look]
def TellsP (D : DataW Unit) (pre : List PX) : Prop := IsMap D ∧ ∀ s : List UInt8, has D (.string s) = (look pre s).isSome ∧ D.atKey (.string s) (.lit (.int .i64 0)) = .lit (.int .i64 ((look pre s).getD 0 : Nat))
theorem tells_start : TellsP (.map []) [] := ⟨isMap_empty, fun _ => ⟨rfl, rfl⟩⟩
theorem tells_next {D : DataW Unit} {pre : List PX} (h : TellsP D pre) (x : PX) : TellsP (D.put (.string x.1.2.1.data.toList) (.lit (.int .i64 (x.1.1 : Int)))) (pre ++ [x]) := by
  refine ⟨h.1.put _ _, fun s => ?_⟩
  rw [look_snoc]
  by_cases hs : x.1.2.1.data.toList = s
  · subst hs
    rw [if_pos rfl]
    exact ⟨has_put_same h.1 (by simp [WideAt.IsKeyLit]) _, by rw [atKey_put_same h.1 (by simp [WideAt.IsKeyLit])]; rfl⟩
  · rw [if_neg hs]
    have hne : (Lit.string s) ≠ .string x.1.2.1.data.toList := fun e => hs (by simpa using e.symm)
    exact ⟨(has_put_other hne _).trans (h.2 s).1, by rw [atKey_put_other hne]; exact (h.2 s).2⟩
/-- Those that come: from behind. -/
structure Back (l : List K) (R : List PX) : Prop where
  len : R.length = l.length
  at' : ∀ k x, R[k]? = some x → x.1.1 + (k + 1) = l.length ∧ l[x.1.1]? = some x.1.2
theorem look_back {l : List K} {R : List PX} (h : Back l R) (s : List UInt8) (k : Nat) (hk : k ≤ l.length) : look (R.take k) s = first s (l.drop (l.length - k)) (l.length - k) := by
  induction k with
  | zero => rw [Nat.sub_zero, List.drop_length]; rfl
  | succ k ih =>
    have hkR : k < R.length := by rw [h.len]; omega
    obtain ⟨x, hx⟩ : ∃ x, R[k]? = some x := ⟨_, List.getElem?_eq_getElem hkR⟩
    obtain ⟨h1, h2⟩ := h.at' k x hx
    have e : l.length - (k + 1) = x.1.1 := by omega
    obtain ⟨h3, h4⟩ := List.getElem?_eq_some_iff.1 h2
    rw [List.take_add_one, hx, e, List.drop_eq_getElem_cons h3, h4, first, show (some x).toList = [x] from rfl, look_snoc, ih (by omega), show l.length - k = x.1.1 + 1 by omega]
theorem back_is (l : List K) (hn : l.length ≤ 1000000) (hz : ∀ x ∈ l, x.1.size ≤ maxLen) : ∃ R, Back l R := by
  refine ⟨(List.range l.length).pmap (fun k (hk : k < l.length) => (⟨(l.length - 1 - k, l[l.length - 1 - k]'(by omega)), hz _ (List.getElem_mem _), by show l.length - 1 - k ≤ 1000000; omega⟩ : PX)) (fun k hk => List.mem_range.1 hk), ⟨by simp, fun k x hx => ?_⟩⟩
  obtain ⟨h1, h2⟩ := List.getElem?_eq_some_iff.1 hx
  have hk : k < l.length := by simpa using h1
  rw [List.getElem_pmap] at h2
  subst h2
  simp
  omega

/-- What a round that goes on keeps: all below n, and block q. -/
def KP (n q : Nat) (A B : World) : Prop := Below n A B ∧ B.heap[q]? = A.heap[q]?
theorem KP.refl (n q : Nat) (A : World) : KP n q A A := ⟨Below.refl _ _, rfl⟩
theorem KP.trans {n q : Nat} {A B C : World} (h : KP n q A B) (k : KP n q B C) : KP n q A C := ⟨h.1.trans k.1, k.2.trans h.2⟩
set_option maxHeartbeats 2000000 in
/-- The iterator: from behind. -/
theorem back1_in (F : Fence) (n : Nat) (hf : F.fn 103) (hro : F.round = none) (hn : 1 ≤ n) (lp Bs n₀ N c : Nat) (a : Option Addr) (l : List K) (R : List PX) (hN : l.length = N) (hN2 : N ≤ 1000000) (hR : Back l R) (J Jx : List PX → World → Prop)
    (hY : ∀ pre x W, J pre W → pre.length < N → YieldAt F (n - 1) Tryz.prog lp #[.int .i64 (x.1.1 : Int), .agg #[.string x.1.2.1, .string x.1.2.2]] W fun e W' =>
      (e = .returned (.bool true) ∧ J (pre ++ [x]) W' ∧ KP n₀ Bs W W') ∨ (e = .returned (.bool false) ∧ Jx (pre ++ [x]) W'))
    (W : World) (hBs : W.cell? ⟨Bs, 0, none⟩ = some (.slice a N c)) (ha : CelR W a l) (hlow : l.length ≠ 0 → ∀ q, a = some q → q.block < n₀) (h0 : J [] W) :
    CallsIn F n Tryz.prog 103 #[.func (.yield lp) #[] #[], .pointer (some ⟨Bs, 0, none⟩)] W fun e W' => (∃ v, e = .returned v) ∧ ((∃ ys, ys = R ∧ J ys W') ∨ (∃ pre, pre <+: R ∧ Jx pre W')) := by
  have hw1 : wrap64 ((N : Int) - 1) = (N : Int) - 1 := by unfold wrap64; omega
  refine callsIn_of_wp Tryz.func103 rfl hf ?_ hro
  simp only [Tryz.ntmps103, List.size_toArray, List.length_cons, List.length_nil, Nat.reduceAdd, Nat.reduceSub, Array.replicate_succ, Array.replicate_zero, List.push_toArray, List.append_toArray, List.nil_append, List.cons_append]
  gi_wp2
  gi_loopw [3] (fun i wr => ∃ k : Nat, k ≤ N ∧ i = .int .i64 ((N : Int) - 1 - k) ∧ J (R.take k) wr ∧ KP n₀ Bs W wr) (fun i _ => (intOf i + 1).toNat)
  case atStart => exact ⟨0, Nat.zero_le _, by simp, h0, KP.refl _ _ _⟩
  case round =>
    obtain ⟨k, hk, rfl, hJs, hnx⟩ := hrel
    have hBs' := (World.cell?_of_block (a := ⟨Bs, 0, none⟩) hnx.2).trans hBs
    by_cases hlt : k < N
    · have hkR : k < R.length := by rw [hR.len]; omega
      obtain ⟨x, hx⟩ : ∃ x, R[k]? = some x := ⟨_, List.getElem?_eq_getElem hkR⟩
      obtain ⟨h1, h2⟩ := hR.at' k x hx
      obtain ⟨fn, tmps, assign, body, hy, hRd⟩ := hY _ x wr hJs (by rw [List.length_take]; omega)
      obtain ⟨g, o, rfl, hg, hgc⟩ := ha (by omega)
      obtain ⟨c1, c2⟩ := hgc _ _ h2
      have hgn := hlow (by omega) _ rfl
      have d1 : wr.cell? ⟨g, o + x.1.1 * 2, none⟩ = some (.string x.1.2.1) := (hnx.1.cell (p := ⟨g, o + x.1.1 * 2, none⟩) hgn).trans c1
      have d2 : wr.cell? ⟨g, o + x.1.1 * 2 + 1, none⟩ = some (.string x.1.2.2) := (hnx.1.cell (p := ⟨g, o + x.1.1 * 2 + 1, none⟩) hgn).trans c2
      have ei : (N : Int) - 1 - (k : Int) = (x.1.1 : Int) := by omega
      have hxN : (x.1.1 : Int) < (N : Int) := by omega
      have hx0 : (0 : Int) ≤ (x.1.1 : Int) := by omega
      have hw2 : wrap64 ((x.1.1 : Int) - 1) = (x.1.1 : Int) - 1 := by unfold wrap64; omega
      rw [ei]
      gi_wp2
      refine hRd.mono ?_
      rintro e W3 (⟨rfl, hJ3, hk3⟩ | ⟨rfl, hJx3⟩)
      · gi_wp2
        go_roundw
        case rel => exact ⟨k + 1, by omega, (by congr 1; omega), by rw [List.take_add_one, hx]; exact hJ3, hnx.trans hk3⟩
        case measure => first | (simp [intOf]; done) | (simp [intOf]; omega)
      · gi_wp2
        refine bodyPost_ret (results_none rfl _ _ _) rfl ?_
        exact ⟨⟨_, rfl⟩, .inr ⟨R.take (k + 1), List.take_prefix _ _, by rw [List.take_add_one, hx]; exact hJx3⟩⟩
    · obtain rfl : k = N := by omega
      have hd : decide ((0 : Int) ≤ (k : Int) - 1 - k) = false := decide_eq_false (by omega)
      have hd2 : ¬ ((0 : Int) ≤ (k : Int) - 1 - k) := by omega
      gi_wp2
      go_end0
      have hJ' : J R wr := by rwa [List.take_of_length_le (by rw [hR.len]; omega)] at hJs
      exact ⟨⟨_, rfl⟩, .inl hJ'⟩
set_option maxHeartbeats 1000000 in
/-- slices.Backward: the slice's value is boxed. -/
theorem back_in (F : Fence) (n : Nat) (hf : F.fn 77) (hro : F.round = none) (a : Option Addr) (N c : Nat) (w : World) :
    CallsIn F n Tryz.prog 77 #[.slice a N c] w fun e w' => e = .returned (.func (.func 103) #[] #[.pointer (some ⟨w.heap.size, 0, none⟩)]) ∧ w' = w.alloc (.cells #[.slice a N c] 22) := by
  refine callsIn_of_wp Tryz.func77 rfl hf ?_ hro
  simp only [Tryz.ntmps77, List.size_toArray, List.length_cons, List.length_nil, Nat.reduceAdd, Nat.reduceSub, Array.replicate_succ, Array.replicate_zero, List.push_toArray, List.append_toArray, List.nil_append, List.cons_append]
  gi_wp2
  go_ret
  exact ⟨rfl, rfl⟩
theorem back_stops (F : Fence) (n : Nat) (hf : F.fn 103) (hro : F.round = none) (hn : 1 ≤ n) (Bs n₀ N c : Nat) (a : Option Addr) (l : List K) (R : List PX) (w : World) (hN : l.length = N) (hN2 : N ≤ 1000000) (hR : Back l R) (hBs : Bs < w.heap.size)
    (hc : w.cell? ⟨Bs, 0, none⟩ = some (.slice a N c)) (ha : CelR w a l) (hlow : l.length ≠ 0 → ∀ q, a = some q → q.block < n₀) :
    SeqStopsK F n Tryz.prog 103 #[.pointer (some ⟨Bs, 0, none⟩)] (fun x : PX => #[Value.int .i64 (x.1.1 : Int), .agg #[.string x.1.2.1, .string x.1.2.2]]) (KP n₀ Bs) (fun ys => ys = R) (fun pre => pre <+: R) N w := fun lp J Jx W hW _ _ hY h0 =>
  back1_in F n hf hro hn lp Bs n₀ N c a l R hN hN2 hR J Jx hY W ((hW.cell (p := ⟨Bs, 0, none⟩) hBs).trans hc) (ha.below hW) hlow h0

/-- A map in memory that tells of each name the first place. -/
def PlR (w : World) (b : Nat) (l : List K) : Prop := ∃ k D, w.ownsMap Tryz.prog 9 (plainElem (H := Unit) Tryz.prog 3) b k D ∧ IsMap D ∧ ∀ s : List UInt8, has D (.string s) = (first s l 0).isSome ∧ D.atKey (.string s) (.lit (.int .i64 0)) = .lit (.int .i64 ((first s l 0).getD 0 : Nat))
theorem PlR.below {w w' : World} {b : Nat} {l : List K} (h : PlR w b l) (hb : Below w.heap.size w w') : PlR w' b l := by
  obtain ⟨k, D, h1, h2⟩ := h
  exact ⟨k, D, h1.kept (row := none) ⟨hb.os, hb.tape, hb.output, hb.size, fun k hk _ => hb.block k hk⟩ (by simp), h2⟩
theorem strK : Keyed Tryz.prog 9 := string_keyed Tryz.underlying9
theorem zeroI (w : World) : (zeroValue 3).run Tryz.prog w = .ok (.int .i64 0) w := by kernel_rfl

set_option maxHeartbeats 4000000 in
theorem places_in (F : Fence) (n : Nat) (h1 : F.fn 50) (h2 : F.fn 77) (h3 : F.fn 103) (hro : F.round = none) (hn : 3 ≤ n) (a : Option Addr) (N c : Nat) (l : List K) (w : World) (hN : l.length = N) (hN2 : N ≤ 1000000) (ha : CelR w a l) (hz : ∀ x ∈ l, x.1.size ≤ maxLen) :
    CallsIn F n Tryz.prog 50 #[.slice a N c] w fun e w' => ∃ b, e = .returned (.map (some b)) ∧ PlR w' b l ∧ Below w.heap.size w w' := by
  have hn1 : 1 ≤ n := by omega
  obtain ⟨R, hR⟩ := back_is l (by omega) hz
  have hmm : ∀ (N : Nat) (w : World), (Instr.makeMap 74 (some (.int .i64 (N : Int)))).run Tryz.prog w = .ok (.map (some w.heap.size)) (w.alloc (.map #[] 0)) := fun N w => by
    unfold Instr.makeMap
    simp [Sem.run_bind, run_underlying Tryz.underlying74, asInt, asIntOf]
  refine callsIn_of_wp_marks Tryz.func50 rfl h1 ?_ hro
  simp only [Tryz.ntmps50, List.size_toArray, List.length_cons, List.length_nil, Nat.reduceAdd, Nat.reduceSub, Array.replicate_succ, Array.replicate_zero, List.push_toArray, List.append_toArray, List.nil_append, List.cons_append]
  gi_wp2_with (gi_at_call 77; refine (back_in F (n - 1) h2 hro _ _ _ _).mono ?_; rintro e w' ⟨rfl, rfl⟩)
  have hm0 := World.ownsMap_made w Tryz.prog 9 (plainElem (H := Unit) Tryz.prog 3)
  have bM := Boxed.new (w.alloc (.map #[] 0)) 74 (.map (some w.heap.size))
  have bN := Boxed.new ((w.alloc (.map #[] 0)).alloc (.cells #[.map (some w.heap.size)] 74)) 22 (.slice a N c)
  simp only [World.size_alloc] at bM bN
  have hB0 : Below w.heap.size w (((w.alloc (.map #[] 0)).alloc (.cells #[.map (some w.heap.size)] 74)).alloc (.cells #[.slice a N c] 22)) := (((Below.refl _ w).alloc (Nat.le_refl _) _).alloc (by simp) _).alloc (by simp; omega) _
  have hsz : (((w.alloc (.map #[] 0)).alloc (.cells #[.map (some w.heap.size)] 74)).alloc (.cells #[.slice a N c] 22)).heap.size = w.heap.size + 3 := by simp
  have hm1 := (hm0.alloc (.cells #[.map (some w.heap.size)] 74)).alloc (.cells #[.slice a N c] 22)
  have bM1 := bM.alloc (.cells #[.slice a N c] 22)
  obtain ⟨W0, hW0⟩ : ∃ W0, ((w.alloc (.map #[] 0)).alloc (.cells #[.map (some w.heap.size)] 74)).alloc (.cells #[.slice a N c] 22) = W0 := ⟨_, rfl⟩
  rw [hW0] at bM1 bN hm1 hB0 hsz ⊢
  clear hW0 bM hm0 hmm
  have hlow : l.length ≠ 0 → ∀ q, a = some q → q.block < w.heap.size := fun h0 q hq => by
    obtain ⟨g, o, e, hg, -⟩ := ha h0
    rw [hq] at e
    cases e
    exact hg
  refine wpIn_rangeFunc_ownH hro hn1 (gf := 103) (lb := #[.pointer (some ⟨w.heap.size + 1 + 1, 0, none⟩)]) rfl h3 (enters_of Tryz.func103 (by kernel_rfl) rfl)
    (back_stops F (n - 1) h3 hro (by omega) (w.heap.size + 1 + 1) w.heap.size N c a l R W0 hN hN2 hR (by omega) bN.cell (ha.below hB0) hlow)
    (fun h k => h.trans k) (fun W lq o o' hl h1 h2 h3 => ⟨belowK_b (w := W0) (n₀ := w.heap.size) (by omega) W lq o o' hl h1 h2 h3, (belowK_b (w := W0) (n₀ := w.heap.size + 3) (by omega) W lq o o' hl h1 h2 h3).block _ (by omega)⟩) (Below.refl _ _) (fun _ => rfl)
    (fun pre W => (Boxed W (w.heap.size + 1) 74 (.map (some w.heap.size)) ∧ ∃ D : DataW Unit, W.ownsMap Tryz.prog 9 (plainElem Tryz.prog 3) w.heap.size pre.length D ∧ TellsP D pre) ∧ Below w.heap.size w W ∧ w.heap.size + 3 ≤ W.heap.size)
    (fun _ _ _ => False)
    (OwnFrom.and (OwnFrom.and (Own.from (boxed_own _ _ _) _) (fun s A B row hs hg hr => by obtain ⟨D, h1, h2⟩ := hs; exact ⟨D, h1.kept hg (fun e => by have := (hr _ e.symm).1; omega), h2⟩)) (OwnFrom.and (ownFrom_below (Nat.le_refl _) (by omega)) (fun s A B row hs hg hr => Nat.le_trans hs hg.size)))
    (fun _ _ _ _ _ hs _ _ => hs) ⟨⟨bM1, _, hm1, tells_start⟩, hB0, by omega⟩
    (fun x a' W => ∃ Bx, w.heap.size + 1 < Bx ∧ (W.cell? ⟨Bx, 0, none⟩ = some (.string x.1.2.1)) ∧ a' = { tmps := #[.slice a N c, undef, .map none, .pointer (some ⟨w.heap.size + 1, 0, none⟩), .int .i64 (x.1.1 : Int), .pointer (some ⟨Bx, 0, none⟩), .slice a N c, .int .i64 N, .map (some w.heap.size), .slice a N c, .func (.func 103) #[] #[.pointer (some ⟨w.heap.size + 1 + 1, 0, none⟩)], .int .i64 (x.1.1 : Int), .agg #[.string x.1.2.1, .string x.1.2.2], undef, undef, undef, undef, undef], defers := [] })
    (fun x a' _ X Y row hs hg hr => by obtain ⟨Bx, h1, h2, h3⟩ := hs; exact ⟨Bx, h1, cell_kept h2 hg (fun r e => (hr r e).2), h3⟩)
    ?assign ?body ?done ?stop
  case assign =>
    rintro lp pre x W K ⟨⟨bS, D, hD, hT⟩, hB, hs3⟩ hK
    gi_wp2
    exact hK _ _ ((KeepsOthers.alloc _ _).from _) ⟨(Below.refl _ W).alloc hB.size _, ((Below.refl (w.heap.size + 3) W).alloc hs3 _).block _ (by omega)⟩ ⟨⟨bS.alloc _, D, hD.alloc _, hT⟩, hB.alloc hB.size _, Nat.le_trans hs3 (by simp)⟩ ⟨W.heap.size, bS.lt, by simp, rfl⟩
  case body =>
    rintro lp pre x a' W hl ⟨r, hr⟩ ⟨⟨bS, D, hD, hT⟩, hB, hs3⟩ ⟨Bx, hBx, cX, rfl⟩ hlt
    have cB := bS.cell
    gi_wp2_with (gi_at_mapUpdate; refine wpListIn_mapUpdate_own _ rfl _ _ _ 74 rfl 9 3 strK Tryz.underlying74 _ w.heap.size pre.length _ rfl hD (by unfold maxLen; omega) _ _ _ rfl rfl (Go.WideMaps.keyOf_string_mk Tryz.underlying9 x.2.1) _ [] (plainElem_int Tryz.underlying3 (WalkArith.wf_i64 (by have := x.2.2; omega))) ?_; intro w1 hown1 hgrow1)
    exact ⟨KeepsFrom.of_grownBy hgrow1 (fun j e => by cases e; omega), ⟨(Below.refl _ W).grown hgrow1 hB.size (fun k e => by cases e; exact Nat.le_refl _), hgrow1.block _ (by omega) (by simp; omega)⟩,
      ⟨⟨boxed_own _ _ (fun (_ : Unit) => .map (some w.heap.size)) () W w1 _ bS hgrow1 (fun r e => by cases e; obtain ⟨es, ck, hh, _⟩ := hD; exact ⟨_, hh, rfl⟩), _, by rw [List.length_append]; exact hown1, tells_next hT x⟩, hB.grown hgrow1 hB.size (fun k e => by cases e; exact Nat.le_refl _), Nat.le_trans hs3 hgrow1.size⟩⟩
  case done =>
    rintro D ys W hD rfl ⟨⟨bS, D', hD', hT⟩, hB, hs3⟩ hK
    have cB := bS.cell
    gi_wp2
    refine ⟨by simp, .inl ⟨_, _, rfl, run_takeDeferred hK, ?_⟩⟩
    refine ⟨_, results_tmp rfl _ _ _, w.heap.size, rfl, ⟨ys.length, D', hD'.kept (grownBy_putObj' _ D _) (fun e => by cases e; omega), hT.1, fun s => ?_⟩, hB.trans (belowK_b (w := W0) (n₀ := w.heap.size) (by omega) W D _ _ hD hK rfl rfl)⟩
    have e := look_back hR s l.length (Nat.le_refl _)
    rw [List.take_of_length_le (by rw [hR.len]; omega), Nat.sub_self, List.drop_zero] at e
    rw [← e]
    exact hT.2 s
  case stop =>
    rintro D c pre W _ _ h _
    exact h.elim
theorem places_any (a : Option Addr) (N c : Nat) (l : List K) (w : World) (hN : l.length = N) (hN2 : N ≤ 1000000) (ha : CelR w a l) (hz : ∀ x ∈ l, x.1.size ≤ maxLen) :
    Calls Tryz.prog 50 #[.slice a N c] w fun e w' => ∃ b, e = .returned (.map (some b)) ∧ PlR w' b l ∧ Below w.heap.size w w' :=
  (callsIn_wide (n := 5)).1 (places_in _ 5 trivial trivial trivial rfl (by decide) a N c l w hN hN2 ha hz)
end Go.Proofs.YtolmfimpaofefaaGreatDoor.Bkp2
