/-
  '==' of sixteen words with themselves, as the model has it. No condition.
-/
import Derived.Test.YtblheplpaiokkaaChaBlk
import Derived.Laws.StructEq
namespace Go.Proofs.Ytblheplpaiokkaa.Cha
open Go.RowKit Mur Lanes
set_option maxRecDepth 100000
theorem eq_lit16 (a b c d e f g i j k l m n o p q : Int) (w : World) :
    (Op.equalIn 10000 23 (.agg #[.int .u32 a, .int .u32 b, .int .u32 c, .int .u32 d, .int .u32 e, .int .u32 f, .int .u32 g, .int .u32 i, .int .u32 j, .int .u32 k, .int .u32 l, .int .u32 m, .int .u32 n, .int .u32 o, .int .u32 p, .int .u32 q])
      (.agg #[.int .u32 a, .int .u32 b, .int .u32 c, .int .u32 d, .int .u32 e, .int .u32 f, .int .u32 g, .int .u32 i, .int .u32 j, .int .u32 k, .int .u32 l, .int .u32 m, .int .u32 n, .int .u32 o, .int .u32 p, .int .u32 q])).run Try.prog w = .ok true w := by
  have u22 := Try.underlying22
  have a22 := Try.isAgg22
  have z22 := Try.sizeOf22
  rw [show (10000 : Nat) = 9999 + 1 from rfl, Op.equalIn]
  simp only [Sem.run_bind, run_underlying Try.underlying23, Result.andThen_ok]
  simp only [Std.Legacy.Range.forIn_eq_forIn_range', Std.Legacy.Range.size, Nat.sub_zero, Nat.add_sub_cancel, Nat.div_one, List.range'_succ, List.range'_zero, List.forIn_cons, List.forIn_nil]
  go_simp
theorem eq_sixteen {s : List Nat} (h : s.length = 16) (w : World) : (Op.equalIn 10000 23 (.agg (wordsV s).toArray) (.agg (wordsV s).toArray)).run Try.prog w = .ok true w := by
  obtain ⟨a, b, c, d, e, f, g, i, j, k, l, m, n, o, p, q, rfl⟩ := list16 h
  exact eq_lit16 _ _ _ _ _ _ _ _ _ _ _ _ _ _ _ _ w
end Go.Proofs.Ytblheplpaiokkaa.Cha
