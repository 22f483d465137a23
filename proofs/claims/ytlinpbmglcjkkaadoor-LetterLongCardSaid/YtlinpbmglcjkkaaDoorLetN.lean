/-
  More of letter's plain mathematics: what was read fits; the texts and numbers of what was read, as values. No condition but those that each lemma names.
-/
import Derived.Test.YtlinpbmglcjkkaaDoorRLetB
namespace Go.Proofs.YtlinpbmglcjkkaaDoor.Let
open Go.RowKit Mur Prt Lanes Cod
open Ros (glue glue_error glue_ok glue_parts ints ints_length num_nat)
set_option maxRecDepth 100000

theorem tx_data (s : ByteArray) : tx s.data.toList = s := by cases s; rfl
theorem zl_ints (l : List Nat) : zl l = ints l := rfl
theorem bl_tl (m : List (List UInt8)) : RLet.bl (tl m) = m := by
  rw [RLet.bl, tl, List.map_map]
  exact List.map_id' m
theorem strB_tl (m : List (List UInt8)) : layAll strB (tl m) = layAll str m := by rw [RLet.lay_bl, bl_tl]
theorem each_in {α : Type} (lay : α → Except Nat (List UInt8)) (P : α → Prop) (h : ∀ x a, lay x = .ok a → P x) (l : List α) : ∀ b, each lay l = .ok b → ∀ z ∈ l, P z := by
  induction l with
  | nil => intro b _ z hz; cases hz
  | cons x l ih =>
    intro b g z hz
    cases hx : lay x with
    | error e => rw [each_error lay x l e hx] at g; cases g
    | ok a =>
      rw [each_ok lay x l a hx] at g
      cases hl : each lay l with
      | error e => rw [hl] at g; cases g
      | ok c =>
        rcases List.mem_cons.1 hz with rfl | hz
        · exact h z a hx
        · exact ih c hl z hz
theorem all_in {α : Type} (lay : α → Except Nat (List UInt8)) (P : α → Prop) (h : ∀ x a, lay x = .ok a → P x) (l : List α) (b : List UInt8) (g : layAll lay l = .ok b) : l.length ≤ 255 ∧ ∀ z ∈ l, P z := by
  unfold layAll at g
  split at g
  · cases g
  · cases hl : each lay l with
    | error e => rw [hl] at g; cases g
    | ok c => exact ⟨by omega, each_in lay P h l c hl⟩
theorem nums_fit (l : List Int) (b : List UInt8) (g : layAll num l = .ok b) : l.length ≤ 255 ∧ ∀ z ∈ l, -9223372036854775808 ≤ z ∧ z ≤ 9223372036854775807 :=
  all_in num _ (fun x a h => by have := num_nat x a h; omega) l b g
theorem num_fit (z : Int) (b : List UInt8) (g : num z = .ok b) : -9223372036854775808 ≤ z ∧ z ≤ 9223372036854775807 := by have := num_nat z b g; omega
theorem strs_fit (m : List (List UInt8)) (b : List UInt8) (g : layAll str m = .ok b) : (tl m).length ≤ 255 ∧ ∀ z ∈ tl m, z.size ≤ 9223372036854775807 := by
  obtain ⟨h1, h2⟩ := all_in str (fun s => s.length ≤ 6000) str_fits m b g
  refine ⟨by rw [tl, List.length_map]; exact h1, fun z hz => ?_⟩
  obtain ⟨s, hs, rfl⟩ := List.mem_map.1 hz
  have := h2 s hs
  show s.length ≤ _
  omega
theorem list_parts (who : List Int) (clock : Int) (s : List UInt8) (h : layList who clock = .ok s) : (who.length ≤ 255 ∧ ∀ z ∈ who, -9223372036854775808 ≤ z ∧ z ≤ 9223372036854775807) ∧ (-9223372036854775808 ≤ clock ∧ clock ≤ 9223372036854775807) := by
  obtain ⟨a, b, h1, h2, -⟩ := glue_parts _ _ _ h
  exact ⟨nums_fit _ _ h1, num_fit _ _ h2⟩
theorem share_parts (b : List UInt8) (m : List (List UInt8)) (s : List UInt8) (h : layShare b m = .ok s) : b.length ≤ 6000 ∧ (tl m).length ≤ 255 ∧ ∀ z ∈ tl m, z.size ≤ 9223372036854775807 := by
  obtain ⟨x, y, h1, h2, -⟩ := glue_parts _ _ _ h
  exact ⟨str_fits _ _ h1, strs_fit _ _ h2⟩
theorem cert_parts (o : List UInt8) (who : List Int) (clock : Int) (s : List UInt8) (h : layCert o who clock = .ok s) : o.length ≤ 6000 ∧ (who.length ≤ 255 ∧ ∀ z ∈ who, -9223372036854775808 ≤ z ∧ z ≤ 9223372036854775807) ∧ (-9223372036854775808 ≤ clock ∧ clock ≤ 9223372036854775807) := by
  obtain ⟨x, y, h1, h2, -⟩ := glue_parts _ _ _ h
  obtain ⟨c, d, h3, h4, -⟩ := glue_parts _ _ _ h1
  exact ⟨str_fits _ _ h3, nums_fit _ _ h4, num_fit _ _ h2⟩
end Go.Proofs.YtlinpbmglcjkkaaDoor.Let
