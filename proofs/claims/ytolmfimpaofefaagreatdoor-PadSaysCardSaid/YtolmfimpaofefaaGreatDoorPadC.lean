/-
  What the laws of layer 17 want of package pad: its functions' answers, as the plain mathematics of the text Pad says, as one structure; all memory that was there is left as it was. Conditions: those that each part names (short texts, few of each list, numbers of 64 bits, the listed tables).
-/
import Derived.Test.YtolmfimpaofefaaGreatDoorPadKz
import Derived.Test.YtolmfimpaofefaaGreatDoorMBkX
namespace Go.Proofs.YtolmfimpaofefaaGreatDoor.Pad
open Go.RowKit Mur Prt Lanes Tap Bkl Bkm Rec Cel Bkr Bkb
set_option maxRecDepth 100000

/-- A number of 64 bits. -/
def InR (x : Int) : Prop := -9223372036854775808 ≤ x ∧ x ≤ 9223372036854775807
/-- What a real book has kept is short. -/
def Brief (b : Bk) : Prop := b.ideal = false → ∀ c ∈ b.cells, c.2.length ≤ 1000
structure Con : Prop where
  secret : ∀ (A : Nat → Prop) (b : Bk) (v : List Value) (c s e : Int) (X : ByteArray) (w : World), X = tx (secret b.seed c s e) → BkR w b v A → b.seed.length ≤ 1000 → InR c → InR s → InR e → Laid w →
    Calls Tryz.prog 14 #[.agg v.toArray, .int .i64 c, .int .i64 s, .int .i64 e] w fun z w' => z = .returned (.string X) ∧ Below w.heap.size w w'
  server : ∀ (A : Nat → Prop) (b : Bk) (v : List Value) (s e : Int) (X : ByteArray) (w : World), X = tx (server b.seed s e) → BkR w b v A → b.seed.length ≤ 1000 → InR s → InR e → Laid w →
    Calls Tryz.prog 15 #[.agg v.toArray, .int .i64 s, .int .i64 e] w fun z w' => z = .returned (.string X) ∧ Below w.heap.size w w'
  shared : ∀ (A : Nat → Prop) (b : Bk) (v : List Value) (c s e : Int) (X : ByteArray) (w : World), X = shared b.seed c s e → BkR w b v A → b.seed.length ≤ 1000 → InR c → InR s → InR e → Laid w →
    Calls Tryz.prog 18 #[.agg v.toArray, .int .i64 c, .int .i64 s, .int .i64 e] w fun z w' => z = .returned (.string X) ∧ Below w.heap.size w w'
  of : ∀ (sh X : ByteArray) (r n : Int) (w : World), X = tx (of sh.data.toList r n) → sh.size ≤ 1000 → InR r → InR n → Laid w →
    Calls Tryz.prog 16 #[.string sh, .int .i64 r, .int .i64 n] w fun z w' => z = .returned (.string X) ∧ Below w.heap.size w w'
  pad : ∀ (A : Nat → Prop) (b b' : Bk) (v : List Value) (c s e r n : Int) (X : ByteArray) (w : World), X = tx (padS b c s e r n) → b' = padB b c s e r n → BkR w b v A → Room b 900 → Brief b → InR c → InR s → InR e → InR r → InR n → Laid w →
    Calls Tryz.prog 8 #[.agg v.toArray, .agg #[.int .i64 c, .int .i64 s], .int .i64 e, .int .i64 r, .int .i64 n] w fun z w' => ∃ v', z = .returned (.tuple #[.string X, .agg v'.toArray]) ∧ BkR w' b' v' (fun k => A k ∨ w.heap.size ≤ k) ∧ Below w.heap.size w w'
  reveal : ∀ (s p X : ByteArray) (E r n : Int) (w : World), X = (if sE s p = 0 then tx (Pad.of (sT s p).data.toList r n) else ⟨#[]⟩) → E = sE s p → InR r → InR n → Laid w →
    Calls Tryz.prog 12 #[.string s, .string p, .int .i64 r, .int .i64 n] w fun z w' => z = .returned (.tuple #[.string X, .int .i64 E]) ∧ Below w.heap.size w w'

theorem get_nil (n : List UInt8) : get [] n = none := rfl
theorem put_nil (n s : List UInt8) : put [] n s = [(n, s)] := rfl
theorem kept_same (c s e r r' : Int) : kept c s e r = kept c s e r' := by rw [kept_is, kept_is]

/-- The statements' own example, as books. -/
def nameT (x : UInt8) : List UInt8 := [112, 97, 100, 32, 49, 48, 48, 32, 49, 32, 48, 32, x]
theorem dec_7 : dec 7 = [55] := PadK.dec_one 7 (by decide) (by decide)
theorem dec_8 : dec 8 = [56] := PadK.dec_one 8 (by decide) (by decide)
theorem name_7 : name 100 1 0 7 = nameT 55 := by
  rw [name, joined, tail, tail, tail, tail, tail, PadK.dec_100, PadK.dec_1, PadK.dec_0, dec_7]
  rfl
theorem name_8 : name 100 1 0 8 = nameT 56 := by
  rw [name, joined, tail, tail, tail, tail, tail, PadK.dec_100, PadK.dec_1, PadK.dec_0, dec_8]
  rfl
def a0 : Bk := ⟨true, [], [(nameT 55, [97, 98, 99])], [], [], [], [], [], []⟩
def a1 : Bk := ⟨true, [], [(nameT 55, [97, 98, 99])], [(nameT 55, [97, 98])], [], [], [], [], []⟩
theorem plain_a0 : plain a0 100 1 0 7 = true := rfl
theorem a0_is : a0 = newB true (⟨#[]⟩ : ByteArray).data.toList (toC (ofC [(nameT 55, [97, 98, 99])])) := by rw [toC_ofC]; rfl
theorem pad_a0 : tx [97, 98] = tx (padS a0 100 1 0 7 2) ∧ a1 = padB a0 100 1 0 7 2 := by
  unfold padS padB
  rw [if_pos plain_a0, if_pos plain_a0, name_7]
  exact ⟨by kernel_rfl, by kernel_rfl⟩
def r0 : Bk := ⟨false, seedT, [], [], [], [], [], [], []⟩
def r1 (K S T : List UInt8) : Bk := ⟨false, seedT, [(K, S)], [(nameT 55, T)], [], [], [], [], []⟩
def r2 (K S T U : List UInt8) : Bk := ⟨false, seedT, [(K, S)], [(nameT 55, T), (nameT 56, U)], [], [], [], [], []⟩
theorem not_ft : ¬ (false = true) := by decide
theorem plain_false (b : Bk) (c s e r : Int) (hi : b.ideal = false) (hu : get b.used (name c s e r) = none) : plain b c s e r = false := by
  unfold plain
  rw [hi, hu, Option.isSome_none, Bool.or_false]
/-- A pad that is new in a real book. -/
theorem pad_new (b : Bk) (c s e r n : Int) (hi : b.ideal = false) (hu : get b.used (name c s e r) = none) : padS b c s e r n = Pad.of (sharedOf b c s e r) r n ∧ padB b c s e r n = { b with cells := cellsOf b c s e r, used := put b.used (name c s e r) (Pad.of (sharedOf b c s e r) r n) } := by
  unfold padS padB
  rw [plain_false b c s e r hi hu, if_neg not_ft, if_neg not_ft]
  exact ⟨Eq.refl _, Eq.refl _⟩
theorem or_none (o : Option (List UInt8)) (S : List UInt8) (h : o = none) : o.getD S = S := by subst h; rfl
theorem or_some (o : Option (List UInt8)) (S T : List UInt8) (h : o = some S) : o.getD T = S := by subst h; rfl
theorem shared_new (b : Bk) (c s e r : Int) (h : get b.cells (kept c s e r) = none) : sharedOf b c s e r = (Pad.shared b.seed c s e).data.toList ∧ cellsOf b c s e r = put b.cells (kept c s e r) (Pad.shared b.seed c s e).data.toList := by
  unfold sharedOf cellsOf
  generalize (Pad.shared b.seed c s e).data.toList = S
  generalize kept c s e r = k at *
  generalize b.cells = l at *
  exact ⟨or_none _ _ h, by rw [h]⟩
theorem shared_old (b : Bk) (c s e r : Int) (S : List UInt8) (h : get b.cells (kept c s e r) = some S) : sharedOf b c s e r = S ∧ cellsOf b c s e r = b.cells := by
  unfold sharedOf cellsOf
  generalize (Pad.shared b.seed c s e).data.toList = T
  generalize kept c s e r = k at *
  generalize b.cells = l at *
  exact ⟨or_some _ _ _ h, by rw [h]⟩
theorem pad_r0 (K S T : List UInt8) (hK : kept 100 1 0 7 = K) (hS : (Pad.shared seedT 100 1 0).data.toList = S) (hT : Pad.of S 7 20 = T) : padS r0 100 1 0 7 20 = T ∧ padB r0 100 1 0 7 20 = r1 K S T := by
  obtain ⟨h1, h2⟩ := pad_new r0 100 1 0 7 20 rfl (get_nil _)
  obtain ⟨h3, h4⟩ := shared_new r0 100 1 0 7 (get_nil _)
  have e : r0.seed = seedT := rfl
  rw [e, hS] at h3 h4
  rw [h3, hT] at h1
  rw [h3, hT, h4, hK, name_7] at h2
  exact ⟨h1, h2⟩
theorem pad_r1 (K S T U : List UInt8) (hK : kept 100 1 0 8 = K) (hU : Pad.of S 8 20 = U) : padS (r1 K S T) 100 1 0 8 20 = U ∧ padB (r1 K S T) 100 1 0 8 20 = r2 K S T U := by
  have hne : nameT 55 ≠ nameT 56 := by decide
  have hg : get (r1 K S T).used (nameT 56) = none := by
    show get [(nameT 55, T)] (nameT 56) = none
    rw [RTap.get_cons, if_neg hne, get_nil]
  have hs : get (r1 K S T).cells K = some S := by
    show get [(K, S)] K = some S
    rw [RTap.get_cons, if_pos rfl]
  obtain ⟨h1, h2⟩ := pad_new (r1 K S T) 100 1 0 8 20 rfl (by rw [name_8]; exact hg)
  obtain ⟨h3, h4⟩ := shared_old (r1 K S T) 100 1 0 8 S (by rw [hK]; exact hs)
  have hp : put (r1 K S T).used (nameT 56) U = [(nameT 55, T), (nameT 56, U)] := by
    show put [(nameT 55, T)] (nameT 56) U = _
    unfold put
    rw [RTap.putF_cons, if_neg hne]
    rfl
  rw [h3, hU] at h1
  rw [h3, hU, h4, name_8, hp] at h2
  exact ⟨h1, h2⟩
theorem unlike (S T U : List UInt8) (hS : (Pad.shared seedT 100 1 0).data.toList = S) (hT : Pad.of S 7 20 = T) (hU : Pad.of S 8 20 = U) : T ≠ U := fun h => by
  have h2 := PadK.of_unlike
  rw [hS, hT, hU, h] at h2
  rw [beq_self_eq_true] at h2
  cases h2
end Go.Proofs.YtolmfimpaofefaaGreatDoor.Pad
