/-
  slices.IndexFunc at cells, whatever the test; find and Get of package tape: what the plain mathematics of the text Tap says; all memory that was there is left as it was. Conditions: no list has more than 1000000 cells.
-/
import Derived.Test.YtpamdpfgcbadhaaDoorTpN
import Derived.Shelf.Abstract
namespace Go.Proofs.YtpamdpfgcbadhaaDoor.Tape
open Go.RowKit Mur Prt Lanes Tap Cel RTap
set_option maxRecDepth 100000
set_option linter.unusedSimpArgs false

/-- The place of the first cell of which the test holds, or -1. -/
def place (p : K → Bool) : List K → Int
  | [] => -1
  | x :: l => if p x = true then 0 else if place p l < 0 then -1 else place p l + 1
theorem place_cases (p : K → Bool) (l : List K) : (place p l = -1 ∧ ∀ x ∈ l, p x = false) ∨ ∃ (k : Nat) (x : K), place p l = (k : Int) ∧ k < l.length ∧ l[k]? = some x ∧ p x = true ∧ ∀ y ∈ l.take k, p y = false := by
  induction l with
  | nil => exact .inl ⟨rfl, fun x hx => by cases hx⟩
  | cons x l ih =>
    unfold place
    by_cases hx : p x = true
    · rw [if_pos hx]
      exact .inr ⟨0, x, rfl, by simp, rfl, hx, fun y hy => by simp at hy⟩
    · rw [if_neg hx]
      have hxf : p x = false := by simpa using hx
      rcases ih with ⟨h1, h2⟩ | ⟨k, z, h1, h2, h3, h4, h5⟩
      · rw [h1, if_pos (by decide)]
        refine .inl ⟨rfl, fun y hy => ?_⟩
        rcases List.mem_cons.1 hy with rfl | hy
        · exact hxf
        · exact h2 y hy
      · rw [h1, if_neg (by omega)]
        refine .inr ⟨k + 1, z, by omega, by rw [List.length_cons]; omega, by simpa using h3, h4, fun y hy => ?_⟩
        rw [List.take_succ_cons] at hy
        rcases List.mem_cons.1 hy with rfl | hy
        · exact hxf
        · exact h5 y hy
theorem place_at (p : K → Bool) (l : List K) (j : Nat) (x : K) (h0 : (l.take j).any p = false) (hx : l[j]? = some x) (hp : p x = true) : place p l = (j : Int) := by
  induction l generalizing j with
  | nil => simp at hx
  | cons y l ih =>
    unfold place
    cases j with
    | zero =>
      simp at hx
      subst hx
      rw [if_pos hp]
      rfl
    | succ j =>
      rw [List.take_succ_cons, List.any_cons, Bool.or_eq_false_iff] at h0
      rw [if_neg (by rw [h0.1]; decide), ih j h0.2 (by simpa using hx), if_neg (by omega)]
      omega
theorem place_none (p : K → Bool) (l : List K) (h : l.any p = false) : place p l = -1 := by
  induction l with
  | nil => rfl
  | cons y l ih =>
    rw [List.any_cons, Bool.or_eq_false_iff] at h
    rw [place, if_neg (by rw [h.1]; decide), ih h.2, if_pos (by decide)]

set_option maxHeartbeats 1600000 in
theorem indexfunc_any (l : List K) (p : K → Bool) (z : Int) (kf : Nat) (caps : Array Value) (n : Nat) (a : Option Addr) (c : Nat) (w : World) (hz : z = place p l) (hn : l.length = n) (hn2 : n ≤ 1000000) (ha : CelR w a l) (hE : Enters Tryd.prog kf)
    (hk : ∀ x ∈ l, ∀ u, Below w.heap.size w u → Calls Tryd.prog kf (#[.agg #[.string x.1, .string x.2]] ++ caps) u fun e w' => e = .returned (.bool (p x)) ∧ Below u.heap.size u w') :
    Calls Tryd.prog 46 #[.slice a n c, .func (.func kf) #[] caps] w fun e w' => e = .returned (.int .i64 z) ∧ Below w.heap.size w w' := by
  have HA := Lib.hid ha
  have HN := Lib.hid hn
  have HK := Lib.hid hk
  have HZ := Lib.hid hz
  clear ha hn hk hz
  go_enter Tryd.func46, Tryd.ntmps46
  go_wp2
  go_loopw [8] (fun i wr => ∃ j : Nat, j ≤ n ∧ i = .int .i64 j ∧ (l.take j).any p = false ∧ Below w.heap.size w wr) (fun i _ => n - (intOf i).toNat)
  case atStart => exact ⟨0, by omega, rfl, rfl, Below.refl _ _⟩
  case round =>
    obtain ⟨j, hj, rfl, hno, hbel⟩ := hrel
    have HW := Lib.hid hbel
    have HNO := Lib.hid hno
    clear hbel hno
    by_cases hlt : j < n
    · have hjl : j < l.length := by have := HN.out; omega
      obtain ⟨g, o, rfl, hgb, hgc⟩ := HA.out (by omega)
      obtain ⟨x, hx⟩ : ∃ x, l[j]? = some x := ⟨_, List.getElem?_eq_getElem hjl⟩
      obtain ⟨xa, xd⟩ := x
      have c1 : wr.cell? ⟨g, o + j * 2, none⟩ = some (.string xa) := (HW.out.cell (p := ⟨g, o + j * 2, none⟩) hgb).trans (hgc j _ hx).1
      have c2 : wr.cell? ⟨g, o + j * 2 + 1, none⟩ = some (.string xd) := (HW.out.cell (p := ⟨g, o + j * 2 + 1, none⟩) hgb).trans (hgc j _ hx).2
      have R1 := Lib.hid (HK.out _ (List.mem_of_getElem? hx) wr HW.out)
      have HX := Lib.hid hx
      have he : ∀ u, (callFunc kf (#[.agg #[.string xa, .string xd]] ++ caps)).run Tryd.prog u = .ok (.enter kf (#[.agg #[.string xa, .string xd]] ++ caps)) u := fun u => hE _ u
      clear hjl hx hgb hgc
      go_wp2_with fail
      clear he
      refine R1.out.mono ?_
      rintro e w3 ⟨rfl, hb3⟩
      have HW3 := Lib.hid (HW.out.trans (hb3.mono HW.out.size))
      clear hb3 R1 c1 c2
      cases hp : p (xa, xd) with
      | false =>
        have hnx : (l.take (j + 1)).any p = false := by
          rw [List.take_add_one, HX.out, List.any_append, HNO.out]
          simp [hp]
        clear hp
        go_wp2
        go_roundw
        case rel => exact ⟨j + 1, by omega, by go_num, hnx, HW3.out⟩
        case measure => simp [intOf]; omega
      | true =>
        obtain rfl : z = (j : Int) := by rw [HZ.out, place_at p l j _ HNO.out HX.out hp]
        clear hp
        go_wp2
        go_ret
        exact ⟨rfl, HW3.out⟩
    · obtain rfl : j = n := by omega
      have ht : l.any p = false := by have := HNO.out; rwa [List.take_of_length_le (by have := HN.out; omega)] at this
      obtain rfl : z = -1 := by rw [HZ.out, place_none p l ht]
      clear ht
      go_wp2
      go_ret
      exact ⟨rfl, HW.out⟩

/-- The test of find. -/
def same (nm : ByteArray) (x : K) : Bool := x.1.toList == nm.toList
theorem same_iff (nm : ByteArray) (x : K) : same nm x = true ↔ x.1.data.toList = nm.data.toList := eql_iff _ _
theorem same_no (nm : ByteArray) (x : K) (h : same nm x = false) : x.1.data.toList ≠ nm.data.toList := fun e => by
  rw [(same_iff nm x).2 e] at h
  cases h
theorem find1_any (x : K) (nm : ByteArray) (b : Nat) (w : World) (hb : b < w.heap.size) (hc : w.cell? ⟨b, 0, none⟩ = some (.string nm)) :
    Calls Tryd.prog 47 #[.agg #[.string x.1, .string x.2], .pointer (some ⟨b, 0, none⟩)] w fun e w' => e = .returned (.bool (same nm x)) ∧ Below w.heap.size w w' := by
  obtain ⟨A, D⟩ := x
  obtain ⟨B, hB⟩ : ∃ B, B = same nm (A, D) := ⟨_, rfl⟩
  have hq : (A.toList == nm.toList) = B := hB.symm
  have hcn : (w.alloc (.cells #[.string A, .string D] 50)).cell? ⟨b, 0, none⟩ = some (.string nm) := (((Below.refl w.heap.size w).alloc (Nat.le_refl _) (.cells #[.string A, .string D] 50)).cell (p := ⟨b, 0, none⟩) hb).trans hc
  have HB := Lib.hid ((Below.refl w.heap.size w).alloc (Nat.le_refl _) (.cells #[.string A, .string D] 50))
  rw [← hB]
  clear hB
  go_enter Tryd.func47, Tryd.ntmps47
  go_wp2
  go_ret
  exact ⟨rfl, HB.out⟩
theorem enters_find : Enters Tryd.prog 47 := enters_of Tryd.func47 (by kernel_rfl) rfl

set_option maxHeartbeats 1600000 in
theorem find_any (l : List K) (nm : ByteArray) (z : Int) (n : Nat) (a : Option Addr) (c : Nat) (w : World) (hz : z = place (same nm) l) (hn : l.length = n) (hn2 : n ≤ 1000000) (ha : CelR w a l) :
    Calls Tryd.prog 36 #[.slice a n c, .string nm] w fun e w' => e = .returned (.int .i64 z) ∧ Below w.heap.size w w' := by
  have hmf : ∀ (fn : Fn) (first cap : Array Value) (w : World), (Instr.makeFunc fn first cap).run Tryd.prog w = .ok (.func fn first cap) w := fun _ _ _ _ => rfl
  have hb0 := (Below.refl w.heap.size w).alloc (Nat.le_refl _) (.cells #[.string nm] 9)
  have hc : (w.alloc (.cells #[.string nm] 9)).cell? ⟨w.heap.size, 0, none⟩ = some (.string nm) := by simp [World.cell?_alloc_new]
  have hlt : w.heap.size < (w.alloc (.cells #[.string nm] 9)).heap.size := by simp
  have R := Lib.hid (indexfunc_any l (same nm) z 47 #[.pointer (some ⟨w.heap.size, 0, none⟩)] n a c _ hz hn hn2 (ha.below hb0) enters_find (fun x _ u hu => find1_any x nm w.heap.size u (Nat.lt_of_lt_of_le hlt hu.size) ((hu.cell (p := ⟨w.heap.size, 0, none⟩) hlt).trans hc)))
  have HB := Lib.hid hb0
  clear hb0 hc hlt hz hn ha
  go_enter Tryd.func36, Tryd.ntmps36
  go_wp2_with fail
  refine R.out.mono ?_
  rintro e w1 ⟨rfl, hb1⟩
  have HB1 := Lib.hid (HB.out.trans (hb1.mono HB.out.size))
  clear hb1
  go_wp2
  go_ret
  exact ⟨rfl, HB1.out⟩

theorem get_none (l : List K) (nm : ByteArray) (h : ∀ x ∈ l, same nm x = false) : get (toC l) nm.data.toList = none := by
  induction l with
  | nil => rfl
  | cons x l ih =>
    show get ((x.1.data.toList, x.2.data.toList) :: toC l) _ = _
    rw [get_cons, if_neg (same_no nm x (h x List.mem_cons_self)), ih fun y hy => h y (List.mem_cons_of_mem _ hy)]
theorem get_some (l : List K) (nm : ByteArray) (k : Nat) (x : K) (hx : l[k]? = some x) (hs : same nm x = true) (h : ∀ y ∈ l.take k, same nm y = false) : get (toC l) nm.data.toList = some x.2.data.toList := by
  induction l generalizing k with
  | nil => simp at hx
  | cons y l ih =>
    show get ((y.1.data.toList, y.2.data.toList) :: toC l) _ = _
    cases k with
    | zero =>
      simp at hx
      subst hx
      rw [get_cons, if_pos ((same_iff nm y).1 hs)]
    | succ k =>
      rw [get_cons, if_neg (same_no nm y (h y (by simp))), ih k (by simpa using hx) (fun z hz => h z (by rw [List.take_succ_cons]; exact List.mem_cons_of_mem _ hz))]

set_option maxHeartbeats 1600000 in
theorem get_any (l : List K) (n : Nat) (a : Option Addr) (c : Nat) (nm X : ByteArray) (B : Bool) (w : World) (hX : X = gotX (get (toC l) nm.data.toList)) (hB : B = (get (toC l) nm.data.toList).isSome) (hr : CelR w a l) (hn : l.length = n) (hn2 : n ≤ 1000000) :
    Calls Tryd.prog 9 #[.slice a n c, .string nm] w fun e w' => e = .returned (.tuple #[.string X, .bool B]) ∧ Below w.heap.size w w' := by
  rcases place_cases (same nm) l with ⟨h1, h2⟩ | ⟨k, ⟨A, D⟩, h1, h2, h3, h4, h5⟩
  · have hg := get_none l nm h2
    rw [hg] at hX hB
    obtain rfl : X = ⟨#[]⟩ := hX
    obtain rfl : B = false := hB
    have R := Lib.hid (find_any l nm (-1) n a c w h1.symm hn hn2 hr)
    clear h1 h2 hg hr hn
    go_enter Tryd.func9, Tryd.ntmps9
    go_wp2_with ((with_reducible refine R.out.mono ?_); rintro e w2 ⟨rfl, hb⟩; have HB := Lib.hid hb; clear hb)
    go_ret2
    exact ⟨rfl, HB.out⟩
  · have hg := get_some l nm k _ h3 h4 h5
    rw [hg] at hX hB
    obtain rfl : X = D := hX.trans (Cel.tx_data D)
    obtain rfl : B = true := hB
    have R := Lib.hid (find_any l nm (k : Int) n a c w h1.symm hn hn2 hr)
    obtain ⟨g, o, rfl, hgb, hc⟩ := hr (by omega)
    have hc2 := (hc k _ h3).2
    have HC := Lib.hid (fun (u : World) (hu : Below w.heap.size w u) => (hu.cell (p := ⟨g, o + k * 2 + 1, none⟩) hgb).trans hc2)
    have hkn : (k : Int) < (n : Int) := by omega
    have hd : decide ((k : Int) < 0) = false := decide_eq_false (by omega)
    have hk0 : (0 : Int) ≤ (k : Int) := by omega
    clear h1 h2 h3 h4 h5 hg hr hn hX hc hc2 hgb
    go_enter Tryd.func9, Tryd.ntmps9
    go_wp2_with ((with_reducible refine R.out.mono ?_); rintro e w2 ⟨rfl, hb⟩; have HB := Lib.hid hb; clear hb; have c2 := HC.out w2 HB.out)
    go_ret2
    exact ⟨rfl, HB.out⟩
end Go.Proofs.YtpamdpfgcbadhaaDoor.Tape
