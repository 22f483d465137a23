/-
  What a slot says as a row of four values: its types, its copies, and how two are compared. Conditions: those that each lemma names.
-/
import Derived.Test.YtedgpglldlohfaaGreatDoorFrC
import Derived.Test.YtedgpglldlohfaaGreatDoorMHk
namespace Go.Proofs.YtedgpglldlohfaaGreatDoor.Frm
open Go.RowKit Mur Lanes Prt Tap Cel
set_option maxRecDepth 100000
set_option linter.unusedSimpArgs false

theorem sayRow (x : SayB) : Hold.TyRow Tryz.prog 38 (sayV x).length := ⟨_, Tryz.underlying38, rfl, by kernel_rfl⟩
theorem cellInt : Hold.TyCell Tryz.prog 3 := ⟨_, Tryz.underlying3, rfl, by kernel_rfl⟩
theorem cellStr : Hold.TyCell Tryz.prog 9 := ⟨_, Tryz.underlying9, rfl, by kernel_rfl⟩
def zeroX : SayB := ⟨0, 0, ⟨#[]⟩, ⟨#[]⟩⟩
def zeroS : List Value := sayV zeroX
theorem zero_said : (Tryz.prog.info? 38).map (fun i => (i.zero, i.size)) = some (some (.agg zeroS.toArray), zeroS.length) := by kernel_rfl
theorem say_fits (x y : SayB) : 0 + (sayV x).length ≤ (sayV y).length := Nat.le_refl 4
theorem say_laid (x y : SayB) : Hold.lay (sayV y) 0 (sayV x) = sayV x := Hold.lay_all rfl
theorem say_one (x : SayB) : Hold.Single (sayV x) := by simp [Hold.Single, sayV, Value.oneCell']
/-- Two that say the same. -/
def same (s t : SayB) : Bool := (s.next == t.next) && (s.seq == t.seq) && (s.text.toList == t.text.toList) && (s.sig.toList == t.sig.toList)
theorem same_iff (s t : SayB) : same s t = true ↔ s = t := by
  obtain ⟨a, b, c, d⟩ := s
  obtain ⟨a', b', c', d'⟩ := t
  simp only [same, Bool.and_eq_true, beq_iff_eq, SayB.mk.injEq, and_assoc, ByteArray.toList_eq]
  have k : ∀ x y : ByteArray, x.data.toList = y.data.toList ↔ x = y := fun x y => ⟨fun h => ByteArray.ext (Array.ext' h), fun h => by rw [h]⟩
  rw [k, k]
theorem same_self (s : SayB) : same s s = true := (same_iff s s).2 rfl

set_option maxHeartbeats 1600000 in
theorem said_eql (s t : SayB) (b : Bool) (hb : b = same s t) {o : Oper} {a : Act} {x y : Operand} {ty : TypeId} (ho : o.op = .binOp .eql 38 x y ty) (hx : a.eval x = .agg (sayV s).toArray) (hy : a.eval y = .agg (sayV t).toArray) (u : World) :
    (execOp a.eval o).run Tryz.prog u = .ok (.value (.bool b)) u := by
  subst hb
  have hx : a.eval x = .agg #[.int .i64 s.next, .int .i64 s.seq, .string s.text, .string s.sig] := hx
  have hy : a.eval y = .agg #[.int .i64 t.next, .int .i64 t.seq, .string t.text, .string t.sig] := hy
  unfold execOp
  simp only [ho, hx, hy]
  unfold same
  cases h0 : (s.next == t.next) with
  | false => go_simp
  | true =>
    cases h1 : (s.seq == t.seq) with
    | false => go_simp
    | true =>
      cases h2 : (s.text.toList == t.text.toList) with
      | false => go_simp
      | true =>
        cases h3 : (s.sig.toList == t.sig.toList) with
        | false => go_simp
        | true => go_simp
end Go.Proofs.YtedgpglldlohfaaGreatDoor.Frm
