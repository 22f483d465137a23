/-
  Steps of a drawn region: a slice literal of two or three parts; a call whose contract is asked where all memory of the beginning is left. Conditions: those that each lemma names.
-/
import Derived.Test.YtlinpbmglcjkkaaDoorJoi
import Derived.Test.YtlinpbmglcjkkaaDoorSteadyH
import Derived.Great.BuildSlice
namespace Go.Proofs.YtlinpbmglcjkkaaDoor.Joi
open Go.RowKit Mur Prt Hold Steady
open Ros (glue)
set_option maxRecDepth 100000

section
variable {P : Program} {ops : Array Oper} {md : Region.Mode} {S : World → Prop} {w0 : World} {m : List Blk}
/-- An operation that makes a variable comes up. -/
theorem make_next {i : Nat} {o : Oper} {fuel : Nat} {listed : Array Bool} {a : Act} {w w' : World} {v : Value} {Q : Exit → Act → World → Prop} (hr : Region.ready md ops listed = [i]) (hi : ops[i]? = some o) (hg : Region.wanted o (yielded ops a.tmps) = true)
    (hy : (execOp a.eval o).run P w = .ok (.value v) w') (hS : S w') (h : wpAnyH P md ops Q S fuel (listed.setIfInBounds i true) (a.put o.dst v) w') : wpAnyH P md ops Q S (fuel + 1) listed a w :=
  wpAnyH_all (rs := [i]) hr (by simp) fun j hj => by
    obtain rfl : j = i := by simpa using hj
    unfold Go.wpOp
    simp only [hi, hg, if_true]
    refine .inl ?_
    unfold Oper.wp
    rw [hy]
    exact ⟨hS, h⟩
/-- A contract that asks that all memory of the beginning is left. -/
theorem keptI {f : FuncId} {args : Array Value} {v : Value} (R : ∀ u, Below w0.heap.size w0 u → Calls P f args u fun e w' => e = .returned v ∧ Below u.heap.size u w') : ∀ u, Hld w0 m u → Calls P f args u fun e w' => e = .returned v ∧ Hld w0 m w' := fun u h =>
  (R u h.below).mono fun _ _ ⟨he, hb⟩ => ⟨he, h.next hb⟩
end
theorem info_laid : (Tryd.prog.info? 98).map (fun i => (i.zero, i.size)) = some (some (.agg #[.string ⟨#[]⟩, .int .i64 0]), 2) := by kernel_rfl
theorem run_op {o : Oper} {a : Act} (w : World) (len : Nat) (parts : Array (Nat × Operand)) (cells : Array Value) (ho : o.op = .buildSlice 110 len parts) (hl : 0 < len ∧ len ≤ 4)
    (hf : Instr.fill (fun i => some (i * 2, 2)) ((Array.range (len * 2)).map ((#[.string ⟨#[]⟩, .int .i64 0] : Array Value)[· % 2]!)) (parts.map fun (i, x) => (i, a.eval x)).toList = some cells) :
    (execOp a.eval o).run Tryd.prog w = .ok (.value (.slice (some ⟨w.heap.size, 0, none⟩) len len)) (w.alloc (.cells cells 98)) := by
  cases hi : Tryd.prog.info? 98 with
  | none => have := info_laid; rw [hi] at this; cases this
  | some i0 =>
    have h0 := info_laid
    rw [hi] at h0
    simp only [Option.map_some, Option.some.injEq, Prod.mk.injEq] at h0
    obtain ⟨hz, hs⟩ := h0
    have h := run_buildSlice (P := Tryd.prog) w 110 98 len (parts.map fun (i, x) => (i, a.eval x)) cells i0 (.agg #[.string ⟨#[]⟩, .int .i64 0]) Tryd.underlying110 hi hz (by rw [hs]; omega) (by rw [hs]; omega) (by rw [hs]; exact hf)
    unfold execOp
    simp only [ho, Sem.run_bind, h, Result.andThen_ok]
    rfl
theorem two_fill (A B : ByteArray) (F G : Int) : Instr.fill (fun i => some (i * 2, 2)) ((Array.range (2 * 2)).map ((#[.string ⟨#[]⟩, .int .i64 0] : Array Value)[· % 2]!)) [(0, .agg #[.string A, .int .i64 F]), (1, .agg #[.string B, .int .i64 G])] = some #[.string A, .int .i64 F, .string B, .int .i64 G] := by kernel_rfl
theorem three_fill (A B C : ByteArray) (F G H : Int) : Instr.fill (fun i => some (i * 2, 2)) ((Array.range (3 * 2)).map ((#[.string ⟨#[]⟩, .int .i64 0] : Array Value)[· % 2]!)) [(0, .agg #[.string A, .int .i64 F]), (1, .agg #[.string B, .int .i64 G]), (2, .agg #[.string C, .int .i64 H])] = some #[.string A, .int .i64 F, .string B, .int .i64 G, .string C, .int .i64 H] := by kernel_rfl
theorem two_row (A B : ByteArray) (F G : Int) (w : World) : PartsR (w.alloc (.cells #[.string A, .int .i64 F, .string B, .int .i64 G] 98)) w.heap.size [(A, F), (B, G)] := by
  refine ⟨by simp, fun i x hx => ?_⟩
  match i, hx with
  | 0, hx => cases hx; simp [World.cell?_alloc_new]
  | 1, hx => cases hx; simp [World.cell?_alloc_new]
theorem three_row (A B C : ByteArray) (F G H : Int) (w : World) : PartsR (w.alloc (.cells #[.string A, .int .i64 F, .string B, .int .i64 G, .string C, .int .i64 H] 98)) w.heap.size [(A, F), (B, G), (C, H)] := by
  refine ⟨by simp, fun i x hx => ?_⟩
  match i, hx with
  | 0, hx => cases hx; simp [World.cell?_alloc_new]
  | 1, hx => cases hx; simp [World.cell?_alloc_new]
  | 2, hx => cases hx; simp [World.cell?_alloc_new]

/-- Two parts joined, and three. -/
theorem two_any (r q : Except Nat (List UInt8)) (A B X : ByteArray) (E F G : Int) (w : World) (hA : A = layX r) (hE : E = errV r) (hB : B = layX q) (hF : F = errV q) (hX : X = layX (glue r q)) (hG : G = errV (glue r q)) (h1 : ∀ e, r = .error e → 1 ≤ e ∧ e ≤ 4) (h2 : ∀ e, q = .error e → 1 ≤ e ∧ e ≤ 4) (s1 : A.size ≤ 1000000000000) (s2 : B.size ≤ 1000000000000) :
    Calls Tryd.prog 52 #[.slice (some ⟨w.heap.size, 0, none⟩) 2 2] (w.alloc (.cells #[.string A, .int .i64 E, .string B, .int .i64 F] 98)) fun e w' => e = .returned (.tuple #[.string X, .int .i64 G]) ∧ Below (w.alloc (.cells #[.string A, .int .i64 E, .string B, .int .i64 F] 98)).heap.size (w.alloc (.cells #[.string A, .int .i64 E, .string B, .int .i64 F] 98)) w' := by
  refine joined_any [(A, E), (B, F)] 2 w.heap.size 2 X G _ ?_ (two_row A B E F w) rfl (by omega) ?_
  · subst hA hE hB hF hX hG
    exact go_two r q h1 h2
  · intro x hx
    rcases List.mem_cons.1 hx with rfl | hx
    · exact s1
    · rcases List.mem_cons.1 hx with rfl | hx
      · exact s2
      · cases hx
theorem three_any (r q s : Except Nat (List UInt8)) (A B C X : ByteArray) (E F H G : Int) (w : World) (hA : A = layX r) (hE : E = errV r) (hB : B = layX q) (hF : F = errV q) (hC : C = layX s) (hH : H = errV s) (hX : X = layX (glue (glue r q) s)) (hG : G = errV (glue (glue r q) s))
    (h1 : ∀ e, r = .error e → 1 ≤ e ∧ e ≤ 4) (h2 : ∀ e, q = .error e → 1 ≤ e ∧ e ≤ 4) (h3 : ∀ e, s = .error e → 1 ≤ e ∧ e ≤ 4) (s1 : A.size ≤ 1000000000000) (s2 : B.size ≤ 1000000000000) (s3 : C.size ≤ 1000000000000) :
    Calls Tryd.prog 52 #[.slice (some ⟨w.heap.size, 0, none⟩) 3 3] (w.alloc (.cells #[.string A, .int .i64 E, .string B, .int .i64 F, .string C, .int .i64 H] 98)) fun e w' => e = .returned (.tuple #[.string X, .int .i64 G]) ∧ Below (w.alloc (.cells #[.string A, .int .i64 E, .string B, .int .i64 F, .string C, .int .i64 H] 98)).heap.size (w.alloc (.cells #[.string A, .int .i64 E, .string B, .int .i64 F, .string C, .int .i64 H] 98)) w' := by
  refine joined_any [(A, E), (B, F), (C, H)] 3 w.heap.size 3 X G _ ?_ (three_row A B C E F H w) rfl (by omega) ?_
  · subst hA hE hB hF hC hH hX hG
    exact go_three r q s h1 h2 h3
  · intro x hx
    rcases List.mem_cons.1 hx with rfl | hx
    · exact s1
    · rcases List.mem_cons.1 hx with rfl | hx
      · exact s2
      · rcases List.mem_cons.1 hx with rfl | hx
        · exact s3
        · cases hx
end Go.Proofs.YtlinpbmglcjkkaaDoor.Joi
