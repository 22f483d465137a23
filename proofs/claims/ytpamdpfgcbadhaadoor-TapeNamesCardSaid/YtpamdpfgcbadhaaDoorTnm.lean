/-
  Mathematics of TapeNames: four numbers as a block on the way to their small selves; '==' of names and of four numbers. No condition.
-/
import Derived.Test.YtpamdpfgcbadhaaDoorRows
import Derived.Test.YtpamdpfgcbadhaaDoorTap
import Derived.Test.YtpamdpfgcbadhaaDoorTpW
import Derived.Test.YtpamdpfgcbadhaaDoorTpO
import Derived.Test.YtpamdpfgcbadhaaDoorSteadyH
import Derived.Laws.StructEq
namespace Go.Proofs.YtpamdpfgcbadhaaDoor.TNm
open Go.ChangeShapes Go.WideShapes Go.ChangeAt Go.RowKit Mur Prt Tap Cel IntWalk
set_option maxRecDepth 100000
theorem rest_of (x : Int) : ∃ m : Nat, m < 1000000 ∧ wrap64 ((IntKind.u64.wrap x).tmod 1000000) = (m : Int) := by
  rw [IntKind.wrap_u64, Int.tmod_eq_emod_of_nonneg (by omega)]
  have h3 : 0 ≤ x % 18446744073709551616 % 1000000 := Int.emod_nonneg _ (by omega)
  have h4 : x % 18446744073709551616 % 1000000 < 1000000 := Int.emod_lt_of_pos _ (by omega)
  refine ⟨(x % 18446744073709551616 % 1000000).toNat, by omega, ?_⟩
  rw [IntWalk.wrap64_in _ (by omega)]
  omega
def iv (l : List Int) : List Value := l.map (fun n => .int .i64 n)
def nv (l : List Nat) : List Int := l.map (fun n : Nat => (n : Int))
def mixV (l : List Int) (m : List Nat) (k : Nat) : List Value := iv (nv (m.take k) ++ l.drop k)
theorem mix_step (l : List Int) (m : List Nat) (hl : l.length = 4) (hm : m.length = 4) (h : ∀ i, i < 4 → wrap64 ((IntKind.u64.wrap (l.getD i 0)).tmod 1000000) = ((m.getD i 0 : Nat) : Int)) (k : Nat) (hk : k < 4) :
    ∃ (x : Int) (n : Nat), (mixV l m k)[k]? = some (.int .i64 x) ∧ wrap64 ((IntKind.u64.wrap x).tmod 1000000) = (n : Int) ∧ mixV l m (k + 1) = (mixV l m k).set k (.int .i64 n) ∧ (mixV l m k).length = 4 := by
  obtain ⟨a, b, c, d, rfl⟩ : ∃ a b c d, l = [a, b, c, d] := by
    match l, hl with
    | [a, b, c, d], _ => exact ⟨a, b, c, d, rfl⟩
  obtain ⟨e, f, g, i, rfl⟩ : ∃ a b c d, m = [a, b, c, d] := by
    match m, hm with
    | [a, b, c, d], _ => exact ⟨a, b, c, d, rfl⟩
  have e0 := h 0 (by omega)
  have e1 := h 1 (by omega)
  have e2 := h 2 (by omega)
  have e3 := h 3 (by omega)
  match k, hk with
  | 0, _ => exact ⟨a, e, rfl, e0, rfl, rfl⟩
  | 1, _ => exact ⟨b, f, rfl, e1, rfl, rfl⟩
  | 2, _ => exact ⟨c, g, rfl, e2, rfl, rfl⟩
  | 3, _ => exact ⟨d, i, rfl, e3, rfl, rfl⟩
theorem eq_four (a b c d e f g i : Int) (w : World) :
    (Op.equalIn 10000 24 (.agg #[.int .i64 a, .int .i64 b, .int .i64 c, .int .i64 d]) (.agg #[.int .i64 e, .int .i64 f, .int .i64 g, .int .i64 i])).run Tryd.prog w = .ok (decide (a = e) && (decide (b = f) && (decide (c = g) && decide (d = i)))) w := by
  have u22 := Tryd.underlying3
  have a22 := Tryd.isAgg3
  have z22 := Tryd.sizeOf3
  rw [show (10000 : Nat) = 9999 + 1 from rfl, Op.equalIn]
  simp only [Sem.run_bind, run_underlying Tryd.underlying24, Result.andThen_ok]
  simp only [Std.Legacy.Range.forIn_eq_forIn_range', Std.Legacy.Range.size, Nat.sub_zero, Nat.add_sub_cancel, Nat.div_one, List.range'_succ, List.range'_zero, List.forIn_cons, List.forIn_nil]
  by_cases h0 : a = e
  · by_cases h1 : b = f
    · by_cases h2 : c = g
      · by_cases h3 : d = i
        · subst h0 h1 h2 h3
          go_simp
        · subst h0 h1 h2
          have n3 : (d == i) = false := by simp [h3]
          go_simp
      · subst h0 h1
        have n2 : (c == g) = false := by simp [h2]
        go_simp
    · subst h0
      have n1 : (b == f) = false := by simp [h1]
      go_simp
  · have n0 : (a == e) = false := by simp [h0]
    go_simp
theorem eql_four {o : Oper} {s : Act} {x y : Operand} {t : TypeId} {a b c d e f g i : Int} {v : Bool} (ho : o.op = .binOp .eql 24 x y t) (hx : s.eval x = .agg #[.int .i64 a, .int .i64 b, .int .i64 c, .int .i64 d]) (hy : s.eval y = .agg #[.int .i64 e, .int .i64 f, .int .i64 g, .int .i64 i])
    (hv : v = (decide (a = e) && (decide (b = f) && (decide (c = g) && decide (d = i))))) (u : World) : (execOp s.eval o).run Tryd.prog u = .ok (.value (.bool v)) u := by
  have h := eq_four a b c d e f g i u
  rw [← hv] at h
  unfold execOp
  simp only [ho, hx, hy]
  go_simp
theorem set_two {w0 w : World} {p q k : Nat} {t : TypeId} {X Y X' Y' : List Value} {u v : Value} (h : Hold.Hld w0 [⟨p, t, X⟩, ⟨q, t, Y⟩] w) (hX : X' = X.set k u) (hY : Y' = Y.set k v) :
    Hold.Hld w0 [⟨p, t, X'⟩, ⟨q, t, Y'⟩] ((w.setCell ⟨p, k, none⟩ u).setCell ⟨q, k, none⟩ v) := by
  subst hX hY
  exact (h.set 0 rfl k [u]).set 1 rfl k [v]
theorem set_two' {w0 w : World} {p q k : Nat} {t : TypeId} {X Y X' Y' : List Value} {u v : Value} (h : Hold.Hld w0 [⟨p, t, X⟩, ⟨q, t, Y⟩] w) (hX : X' = X.set k u) (hY : Y' = Y.set k v) :
    Hold.Hld w0 [⟨p, t, X'⟩, ⟨q, t, Y'⟩] ((w.setCell ⟨q, k, none⟩ v).setCell ⟨p, k, none⟩ u) := by
  subst hX hY
  exact (h.set 1 rfl k [v]).set 0 rfl k [u]
theorem text_same (x y : List UInt8) (X Y : ByteArray) (hX : X = tx x) (hY : Y = tx y) : (X.toList == Y.toList) = decide (x = y) := by
  rw [Bool.eq_iff_iff, decide_eq_true_iff, eql_iff, hX, hY]
theorem nv_two (a b : Nat) : [(a : Int), (b : Int)] = [a, b].map fun n : Nat => (n : Int) := rfl
theorem pad_same (a b c d e f g i : Nat) (X Y : ByteArray) (hX : X = tx (joined [112, 97, 100] [(a : Int), (b : Int), (c : Int), (d : Int)])) (hY : Y = tx (joined [112, 97, 100] [(e : Int), (f : Int), (g : Int), (i : Int)])) :
    (X.toList == Y.toList) = (decide ((a : Int) = e) && (decide ((b : Int) = f) && (decide ((c : Int) = g) && decide ((d : Int) = i)))) := by
  rw [text_same _ _ X Y hX hY, Bool.eq_iff_iff, decide_eq_true_iff]
  have := joined_same [112, 97, 100] [a, b, c, d] [e, f, g, i]
  simp only [List.map_cons, List.map_nil, List.cons.injEq, and_true] at this
  rw [this]
  simp
  omega
theorem mask_same (a b c e f g : Nat) (X Y : ByteArray) (hX : X = tx (joined [109, 97, 115, 107] [(a : Int), (b : Int), (c : Int)])) (hY : Y = tx (joined [109, 97, 115, 107] [(e : Int), (f : Int), (g : Int)])) :
    (X.toList == Y.toList) = (decide ((a : Int) = e) && (decide ((b : Int) = f) && decide ((c : Int) = g))) := by
  rw [text_same _ _ X Y hX hY, Bool.eq_iff_iff, decide_eq_true_iff]
  have := joined_same [109, 97, 115, 107] [a, b, c] [e, f, g]
  simp only [List.map_cons, List.map_nil, List.cons.injEq, and_true] at this
  rw [this]
  simp
  omega
theorem dec_same (a e : Nat) (X Y : ByteArray) (hX : X = tx (dec (a : Int))) (hY : Y = tx (dec (e : Int))) : (X.toList == Y.toList) = decide ((a : Int) = e) := by
  rw [text_same _ _ X Y hX hY, dec_nat, dec_nat, Bool.eq_iff_iff, decide_eq_true_iff, decide_eq_true_iff]
  constructor
  · intro h
    rw [digits_same _ _ h]
  · intro h
    rw [Int.ofNat_inj.1 h]
theorem sig_same (a b c e f g : Nat) (U V X Y : ByteArray) (hU : U = tx (joined [112] [(a : Int), (b : Int)])) (hV : V = tx (joined [112] [(e : Int), (f : Int)])) (hX : X = tx (joined ([115, 105, 103, 32] ++ U.data.toList) [(c : Int)])) (hY : Y = tx (joined ([115, 105, 103, 32] ++ V.data.toList) [(g : Int)])) :
    (X.toList == Y.toList) = (decide ((a : Int) = e) && (decide ((b : Int) = f) && decide ((c : Int) = g))) := by
  have h1 : ∀ l : List Int, [115, 105, 103, 32] ++ joined [112] l = joined [115, 105, 103, 32, 112] l := fun l => rfl
  have hU' : U.data.toList = joined [112] [(a : Int), (b : Int)] := by rw [hU]
  have hV' : V.data.toList = joined [112] [(e : Int), (f : Int)] := by rw [hV]
  rw [hU', h1, joined_more] at hX
  rw [hV', h1, joined_more] at hY
  rw [text_same _ _ X Y hX hY, Bool.eq_iff_iff, decide_eq_true_iff]
  have := joined_same [115, 105, 103, 32, 112] [a, b, c] [e, f, g]
  simp only [List.map_cons, List.map_nil, List.cons.injEq, and_true] at this
  simp only [List.cons_append, List.nil_append]
  rw [this]
  simp
  omega
theorem name_short (U : ByteArray) (a b : Nat) (hU : U = tx (joined [112] [(a : Int), (b : Int)])) (ha : a < 1000000) (hb : b < 1000000) : U.size ≤ 1000 := by
  have e1 := digits_long a 5 (by omega)
  have e2 := digits_long b 5 (by omega)
  rw [hU, tx_size, joined]
  simp only [tail, List.length_append, List.length_cons, List.length_nil, dec_nat]
  omega
end Go.Proofs.YtpamdpfgcbadhaaDoor.TNm
