/-
  member, Live, rightGone, Right and buddies of package roster answer what the plain mathematics of the text Ros says, and leave all memory that was there as it was. Conditions: RosR: the roster's lists lie in memory as they are read, have no more than 1000 numbers, and its numbers fit.
-/
import Derived.Test.YtofnjonmfgdpaaaRosF
namespace Go.Proofs.Ytofnjonmfgdpaaa.Ros
open Go.RowKit Mur Prt Go.Maps
set_option maxRecDepth 100000

/-- A roster, as it is read. -/
structure RosR (w : World) (r : R) (g : ByteArray) (ab : Option Addr) (nb : Nat) (ag : Option Addr) (ng : Nat) : Prop where
  group : g.data.toList = r.group
  buds : IntsR w ab r.buddies
  nbuds : r.buddies.length = nb
  gones : IntsR w ag r.gone
  ngones : r.gone.length = ng
  fitN : g.size ≤ 9223372036854775807
  fitS : -9223372036854775808 ≤ r.servers ∧ r.servers ≤ 9223372036854775807
  fitC : -9223372036854775808 ≤ r.clients ∧ r.clients ≤ 9223372036854775807
  fitB : ∀ z ∈ r.buddies, -9223372036854775808 ≤ z ∧ z ≤ 9223372036854775807
  fitG : ∀ z ∈ r.gone, -9223372036854775808 ≤ z ∧ z ≤ 9223372036854775807
  fewB : nb ≤ 1000
  fewG : ng ≤ 1000
theorem RosR.below {w w' : World} {r : R} {g : ByteArray} {ab ag : Option Addr} {nb ng : Nat} (h : RosR w r g ab nb ag ng) (k : Below w.heap.size w w') : RosR w' r g ab nb ag ng :=
  { h with buds := h.buds.below k, gones := h.gones.below k }
theorem box_five (w : World) (a b c d e : Value) (t : TypeId) : Below w.heap.size w (w.alloc (.cells #[a, b, c, d, e] t)) ∧ w.heap.size < (w.alloc (.cells #[a, b, c, d, e] t)).heap.size ∧
    ∀ u, Below (w.alloc (.cells #[a, b, c, d, e] t)).heap.size (w.alloc (.cells #[a, b, c, d, e] t)) u → u.cell? ⟨w.heap.size, 0, none⟩ = some a ∧ u.cell? ⟨w.heap.size, 1, none⟩ = some b ∧ u.cell? ⟨w.heap.size, 2, none⟩ = some c ∧ u.cell? ⟨w.heap.size, 3, none⟩ = some d ∧ u.cell? ⟨w.heap.size, 4, none⟩ = some e := by
  have hl : w.heap.size < (w.alloc (.cells #[a, b, c, d, e] t)).heap.size := by simp
  refine ⟨(Below.refl _ _).alloc (Nat.le_refl _) _, hl, fun u hu => ?_⟩
  refine ⟨(hu.cell (p := ⟨w.heap.size, 0, none⟩) hl).trans ?_, (hu.cell (p := ⟨w.heap.size, 1, none⟩) hl).trans ?_, (hu.cell (p := ⟨w.heap.size, 2, none⟩) hl).trans ?_, (hu.cell (p := ⟨w.heap.size, 3, none⟩) hl).trans ?_, (hu.cell (p := ⟨w.heap.size, 4, none⟩) hl).trans ?_⟩ <;> simp

theorem member_parts (r : R) (m : Int) : member r m = ((decide (0 ≤ m) && decide (m - 0 < r.servers)) || (decide (100 ≤ m) && decide (m - 100 < r.clients))) := by
  rw [member, Int.sub_zero]

set_option maxHeartbeats 800000 in
theorem member_any (r : R) (m : Int) (b : Bool) (g : ByteArray) (ab ag : Option Addr) (nb cb ng cg : Nat) (w : World) (hb : b = member r m) (h1 : -9223372036854775808 ≤ m) (h2 : m ≤ 9223372036854775807) :
    Calls Try.prog 27 #[.agg #[.string g, .int .i64 r.servers, .int .i64 r.clients, .slice ab nb cb, .slice ag ng cg], .int .i64 m] w fun e w' => e = .returned (.bool b) ∧ Below w.heap.size w w' := by
  rw [member_parts] at hb
  obtain ⟨x, hx⟩ : ∃ x, x = (decide (0 ≤ m) && decide (m - 0 < r.servers)) := ⟨_, rfl⟩
  obtain ⟨y, hy⟩ : ∃ y, y = (decide (100 ≤ m) && decide (m - 100 < r.clients)) := ⟨_, rfl⟩
  rw [← hx, ← hy] at hb
  have R1 := Lib.hid (fun u => among_any m 0 r.servers u x hx (by omega) h1 h2)
  have R2 := Lib.hid (fun u => among_any m 100 r.clients u y hy (by omega) h1 h2)
  have HX := Lib.hid (box_five w (.string g) (.int .i64 r.servers) (.int .i64 r.clients) (.slice ab nb cb) (.slice ag ng cg) 24)
  clear hx hy
  subst hb
  go_enter Try.func27, Try.ntmps27
  go_upto_region 1 with (fail)
  generalize w.alloc (.cells #[.string g, .int .i64 r.servers, .int .i64 r.clients, .slice ab nb cb, .slice ag ng cg] 24) = w0 at *
  obtain ⟨c0, c1, c2, c3, c4⟩ := HX.out.2.2 w0 (Below.refl _ _)
  cases x with
  | true =>
    go_wp2_with fail
    refine (R1.out _).mono ?_
    rintro e w1 ⟨rfl, rfl⟩
    go_wp2
    go_ret
    exact ⟨rfl, HX.out.1⟩
  | false =>
    go_wp2_with fail
    refine (R1.out _).mono ?_
    rintro e w1 ⟨rfl, rfl⟩
    go_wp2_with fail
    refine (R2.out _).mono ?_
    rintro e w1 ⟨rfl, rfl⟩
    go_wp2
    go_ret
    exact ⟨by simp, HX.out.1⟩

set_option maxHeartbeats 800000 in
theorem live_any (r : R) (m : Int) (b : Bool) (g : ByteArray) (ab ag : Option Addr) (nb cb ng cg : Nat) (w : World) (hb : b = live r m) (h1 : -9223372036854775808 ≤ m) (h2 : m ≤ 9223372036854775807) (h : RosR w r g ab nb ag ng) :
    Calls Try.prog 9 #[.agg #[.string g, .int .i64 r.servers, .int .i64 r.clients, .slice ab nb cb, .slice ag ng cg], .int .i64 m] w fun e w' => e = .returned (.bool b) ∧ Below w.heap.size w w' := by
  rw [live] at hb
  obtain ⟨x, hx⟩ : ∃ x, x = member r m := ⟨_, rfl⟩
  obtain ⟨y, hy⟩ : ∃ y, y = decide (m ∈ r.gone) := ⟨_, rfl⟩
  rw [← hx, ← hy] at hb
  have R1 := Lib.hid (fun u => member_any r m x g ab ag nb cb ng cg u hx h1 h2)
  have R2 := Lib.hid (fun (u : World) (hu : IntsR u ag r.gone) => contains_any r.gone m ng ag cg u y hy h.ngones (by have := h.fewG; omega) hu)
  have HX := Lib.hid (box_five w (.string g) (.int .i64 r.servers) (.int .i64 r.clients) (.slice ab nb cb) (.slice ag ng cg) 24)
  have HG := Lib.hid h.gones
  clear hx hy h
  subst hb
  go_enter Try.func9, Try.ntmps9
  go_upto_region 1 with (fail)
  generalize w.alloc (.cells #[.string g, .int .i64 r.servers, .int .i64 r.clients, .slice ab nb cb, .slice ag ng cg] 24) = w0 at *
  obtain ⟨c0, c1, c2, c3, c4⟩ := HX.out.2.2 w0 (Below.refl _ _)
  cases x with
  | false =>
    go_wp2_with fail
    refine (R1.out _).mono ?_
    rintro e w1 ⟨rfl, hb1⟩
    have HB1 := Lib.hid (HX.out.1.trans (hb1.mono HX.out.1.size))
    clear hb1 c0 c1 c2 c3 c4
    go_wp2
    go_ret
    exact ⟨rfl, HB1.out⟩
  | true =>
    go_wp2_with fail
    refine (R1.out _).mono ?_
    rintro e w1 ⟨rfl, hb1⟩
    have HB1 := Lib.hid (HX.out.1.trans (hb1.mono HX.out.1.size))
    clear c0 c1 c2 c3 c4
    obtain ⟨c0, c1, c2, c3, c4⟩ := HX.out.2.2 w1 hb1
    clear hb1
    go_wp2_with fail
    refine (R2.out _ (HG.out.below HB1.out)).mono ?_
    rintro e w2 ⟨rfl, rfl⟩
    go_wp2
    go_ret
    exact ⟨by simp, HB1.out⟩

theorem rising_steps (l : List Int) : rising l = true ↔ ∀ i a b, l[i]? = some a → l[i + 1]? = some b → a < b := by
  induction l with
  | nil => simp [rising]
  | cons x l ih =>
    cases l with
    | nil => simp [rising]
    | cons y l =>
      rw [show rising (x :: y :: l) = (decide (x < y) && rising (y :: l)) from rfl, Bool.and_eq_true, decide_eq_true_eq, ih]
      constructor
      · rintro ⟨h1, h2⟩ i a b ha hb
        cases i with
        | zero =>
          simp at ha hb
          subst ha hb
          exact h1
        | succ i => exact h2 i a b (by simpa using ha) (by simpa using hb)
      · intro h
        exact ⟨h 0 x y rfl rfl, fun i a b ha hb => h (i + 1) a b (by simpa using ha) (by simpa using hb)⟩
end Go.Proofs.Ytofnjonmfgdpaaa.Ros
