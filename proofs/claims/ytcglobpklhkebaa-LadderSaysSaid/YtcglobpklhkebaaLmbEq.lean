/-
  '==' and '!=' of limbs, as one operation. No condition but those that each lemma names.
-/
import Derived.Test.YtcglobpklhkebaaLmbVal
namespace Go.Proofs.Ytcglobpklhkebaa.Limb
open Go.RowKit Mur Lanes
set_option maxRecDepth 100000

theorem eql_run {o : Oper} {a : Act} {x y : Operand} {t : TypeId} (m n : Nat) (ho : o.op = .binOp .eql 24 x y t) (hm : m < 57896044618658097711785492504343953926634992332820282019728792003956564819968) (hn : n < 57896044618658097711785492504343953926634992332820282019728792003956564819968) (hx : a.eval x = limV m) (hy : a.eval y = limV n) (u : World) :
    (execOp a.eval o).run Try.prog u = .ok (.value (.bool (decide (m = n)))) u := by
  have h := eq_lim hm hn u
  obtain ⟨m0, m1, m2, m3, m4, hm⟩ := limV_five m
  obtain ⟨n0, n1, n2, n3, n4, hn⟩ := limV_five n
  rw [hm, hn] at h
  unfold execOp
  simp only [ho, hx, hy, hm, hn]
  go_simp
theorem neq_run {o : Oper} {a : Act} {x y : Operand} {t : TypeId} (m n : Nat) (ho : o.op = .binOp .neq 24 x y t) (hm : m < 57896044618658097711785492504343953926634992332820282019728792003956564819968) (hn : n < 57896044618658097711785492504343953926634992332820282019728792003956564819968) (hx : a.eval x = limV m) (hy : a.eval y = limV n) (u : World) :
    (execOp a.eval o).run Try.prog u = .ok (.value (.bool (!decide (m = n)))) u := by
  have h := eq_lim hm hn u
  obtain ⟨m0, m1, m2, m3, m4, hm⟩ := limV_five m
  obtain ⟨n0, n1, n2, n3, n4, hn⟩ := limV_five n
  rw [hm, hn] at h
  unfold execOp
  simp only [ho, hx, hy, hm, hn]
  go_simp
theorem eql_yes {o : Oper} {a : Act} {x y : Operand} {t : TypeId} (m : Nat) (ho : o.op = .binOp .eql 24 x y t) (hm : m < 57896044618658097711785492504343953926634992332820282019728792003956564819968) (hx : a.eval x = limV m) (hy : a.eval y = limV m) (u : World) :
    (execOp a.eval o).run Try.prog u = .ok (.value (.bool true)) u := by
  have := eql_run m m ho hm hm hx hy u
  rw [decide_eq_true rfl] at this
  exact this
theorem neq_no {o : Oper} {a : Act} {x y : Operand} {t : TypeId} (m : Nat) (ho : o.op = .binOp .neq 24 x y t) (hm : m < 57896044618658097711785492504343953926634992332820282019728792003956564819968) (hx : a.eval x = limV m) (hy : a.eval y = limV m) (u : World) :
    (execOp a.eval o).run Try.prog u = .ok (.value (.bool false)) u := by
  have := neq_run m m ho hm hm hx hy u
  rw [decide_eq_true rfl] at this
  exact this
theorem lit_limbs (n : Nat) (h : n < 2251799813685248) : (.agg #[.int .u64 (n : Int), .int .u64 0, .int .u64 0, .int .u64 0, .int .u64 0] : Value) = limV n := by
  have e0 : n % 2251799813685248 = n := Nat.mod_eq_of_lt h
  have e1 : n / 2251799813685248 = 0 := Nat.div_eq_of_lt h
  have e2 : n / 5070602400912917605986812821504 = 0 := Nat.div_eq_of_lt (by omega)
  have e3 : n / 11417981541647679048466287755595961091061972992 = 0 := Nat.div_eq_of_lt (by omega)
  have e4 : n / 25711008708143844408671393477458601640355247900524685364822016 = 0 := Nat.div_eq_of_lt (by omega)
  unfold limV lim numsV
  rw [e0, e1, e2, e3, e4]
  rfl
end Go.Proofs.Ytcglobpklhkebaa.Limb
