/-
  More functions of Go's library, by the library's contracts: strings.Join with nothing between the parts, the Builder's Len, a Builder that was just made. Conditions: what is made takes no more than 2^47 bytes.
-/
import Derived.Test.YtleoblflhcbcbaaDoorUseKeep
namespace Go.Proofs.YtleoblflhcbcbaaDoor.Use
open Go.RowKit Go.Shelf

theorem join_none (xs : List (List UInt8)) : Lib.join xs [] = xs.flatten := by
  unfold Lib.join
  match xs with
  | [] => rfl
  | [x] => simp [List.intercalate]
  | x :: y :: r =>
    have := join_none (y :: r)
    unfold Lib.join at this
    simp only [List.intercalate, List.intersperse, List.flatten_cons, List.nil_append] at this ⊢
    rw [this]
theorem join_any (bk o c : Nat) (xs : List ByteArray) (F : List UInt8) (w : World) (hcells : ∀ (j : Nat) x, xs[j]? = some x → w.cell? ⟨bk, o + j, none⟩ = some (.string x)) (hbk : bk < w.heap.size) (hN : xs.length ≤ 140737488355328) (hcap : xs.length ≤ c) (hF : F = (xs.map (·.data.toList)).flatten) (hlen : F.length ≤ 140737488355328) :
    Calls Tryd.prog 35 #[.slice (some ⟨bk, o, none⟩) xs.length c, .string ⟨#[]⟩] w fun e w' => e = .returned (.string ⟨F.toArray⟩) ∧ Below w.heap.size w w' := by
  have h := Any.strings_Join Tryd.lays156 Tryd.Builder_Extra_156 bk o c xs ⟨#[]⟩ w hcells hbk hN hcap
  have e : Lib.join (xs.map (·.data.toList)) [] = F := by rw [join_none, hF]
  have e2 : (⟨#[]⟩ : ByteArray).data.toList = [] := rfl
  rw [e2, e] at h
  exact h hlen
theorem len_any (B b : Nat) (l : List UInt8) (n : Int) (w : World) (h : Lib.IsBuilder 45 5 B b (Lib.byteCells l) w) (hn : n = (l.length : Int)) :
    Calls Tryd.prog 31 #[.pointer (some ⟨b, 0, none⟩)] w fun e w' => e = .returned (.int .i64 n) ∧ w = w' := by
  have := Any.Builder_Len (ρ := Tryd.lays105_ren) { Tryd.lays105 with } B b (Lib.byteCells l) w h
  rw [Lib.byteCells_length, ← hn] at this
  exact this.mono fun _ _ h => ⟨h.1, h.2.symm⟩
theorem builder_new (B b : Nat) (w : World) (hB : B ≤ b) (h : w.heap[b]? = some (.cells #[.pointer none, .slice none 0 0] 45 (0, 0))) : Lib.IsBuilder 45 5 B b (Lib.byteCells []) w :=
  .inl ⟨hB, _, h, ⟨by simp [Lib.byteCells], .inl ⟨rfl, rfl⟩⟩, by simp [Value.ownBlock]⟩
end Go.Proofs.YtleoblflhcbcbaaDoor.Use
