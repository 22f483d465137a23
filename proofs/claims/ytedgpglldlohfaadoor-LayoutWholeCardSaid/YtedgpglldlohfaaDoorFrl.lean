/-
  Lemmas that the contracts of package frame of layer 18 share: cuts and bytes of texts, one operation of a drawn region, lengths, which text is bytes 0. Nothing here speaks of what package frame does: no condition but those that each lemma names.
-/
import Derived.Test.YtedgpglldlohfaaDoorFrB
import Derived.Test.YtedgpglldlohfaaDoorFrX
import Derived.BigQuiet
import Derived.Deep.QuietTactic
namespace Go.Proofs.YtedgpglldlohfaaDoor.Frl
open Go.RowKit Mur Lanes Prt Tap Cel Frm
set_option maxRecDepth 100000
set_option linter.unusedSimpArgs false

theorem dec_short (n : Int) (h : n ≤ 9223372036854775807) : (tx (dec n)).size ≤ 19 := by
  have H : ∀ k n, n < 10 ^ k → (digits n).length ≤ max 1 k := by
    intro k
    induction k with
    | zero => intro n h; rw [digits, if_pos (by omega)]; simp
    | succ k ih =>
      intro n h
      rw [digits]
      split
      · simp
      · have h2 : n / 10 < 10 ^ k := by rw [Nat.pow_succ] at h; omega
        have := ih _ h2
        have hk : 1 ≤ k := by
          rcases Nat.eq_zero_or_pos k with rfl | hk
          · omega
          · exact hk
        rw [List.length_append]
        simp only [List.length_cons, List.length_nil]
        omega
  show (dec n).length ≤ 19
  unfold dec
  split
  · decide
  · have := H 19 n.toNat (by omega)
    omega
theorem op_any {P : Program} {ops : Array Oper} {i : Nat} {o : Oper} {a : Act} {w : World} {K : Act → World → Prop} {Q : Exit → Act → World → Prop} (hi : ops[i]? = some o) (hw : Region.wanted o (yielded ops a.tmps) = true) (h : Oper.wp P o a w K Q) : wpOp P ops Q i K a w := by
  unfold wpOp
  simp only [hi]
  rw [if_pos hw]
  exact .inl h
theorem tx_len (l : List UInt8) : (tx l).size = l.length := rfl
theorem hid_is (seed s : ByteArray) : Frm.hidB seed.data.toList s = Cha.hidB (tx (maskKey seed.data.toList)) (tx (zeros 12)) s 0 := Eq.refl _
theorem u8_in (z : Int) (h1 : 0 ≤ z) (h2 : z ≤ 255) : ∃ b : UInt8, b = UInt8.ofNat z.toNat ∧ IntKind.u8.wrap z = ((b.toNat : Nat) : Int) := by
  refine ⟨_, rfl, ?_⟩
  have e : (UInt8.ofNat z.toNat).toNat = z.toNat := by simp; omega
  rw [e]
  have hw : IntKind.u8.wrap z = z := by
    rw [IntKind.wrap_u8]
    omega
  rw [hw]
  omega
theorem body_is (b0 b1 b2 : UInt8) (f g : List UInt8) : (⟨#[b0, b1, b2]⟩ : ByteArray) ++ tx f ++ tx g = tx ([b0, b1, b2] ++ (f ++ g)) := by
  apply ByteArray.ext
  apply Array.toList_inj.1
  simp [ByteArray.toList_data_append]
theorem laid_is (seed : ByteArray) (m : ByteArray) : (⟨#[1]⟩ : ByteArray) ++ seed ++ m = tx ([1] ++ (seed.data.toList ++ m.data.toList)) := by
  apply ByteArray.ext
  apply Array.toList_inj.1
  simp [ByteArray.toList_data_append]
theorem op_store_any {P : Program} {ops : Array Oper} {op : Oper} {a : Act} {w w0 : World} {m : List Hold.Blk} {Q : Exit → Act → World → Prop} {i : Nat} {K : Act → World → Prop} {x y : Operand} {ty t : TypeId} {b o : Nat} {v cs v' : List Value} (h : Hold.Hld w0 m w) (k : Nat) (hi : ops[i]? = some op) (hg : op.guard = none) (ho : op.op = .store ty x y) (hx : a.eval x = .pointer (some ⟨b, o, none⟩)) (hy : a.eval y = .agg cs.toArray) (hk : m[k]? = some ⟨b, t, v⟩) (hl : o + cs.length ≤ v.length) (hv : Hold.lay v o cs = v') (h1 : Hold.Single cs) (hr : Hold.TyRow P ty cs.length)
    (hK : ∀ w', Hold.Hld w0 (m.set k ⟨b, t, v'⟩) w' → K (a.put op.dst undef) w') : wpOp P ops Q i K a w := by
  obtain ⟨d, hu, hd, hs⟩ := hr
  subst hv
  unfold wpOp
  simp only [hi]
  rw [if_pos (by simp [Region.wanted, hg])]
  refine .inl ?_
  refine wp_store_mid ty x y ho b o cs.toArray hx hy (by simpa using h.there k hk o cs.length hl) (by simpa using hs) h1 ?_
  exact hK _ (by simpa using h.set k hk o cs)
theorem cut_is (s : ByteArray) (i j : Nat) : s.extract i j = tx ((s.data.toList.drop i).take (j - i)) := by
  apply ByteArray.ext
  apply Array.toList_inj.1
  simp [List.drop_take]
theorem slice_lh (s X : ByteArray) (l h : Nat) (hl : l ≤ h) (hh : h ≤ s.size) (hX : X = tx ((s.data.toList.drop l).take (h - l))) (u : World) : (Instr.slice 9 (.string s) (some (.int .i64 (l : Int))) (some (.int .i64 (h : Int))) none).run Tryd.prog u = .ok (.string X) u := by
  rw [run_slice_string (P := Tryd.prog) u 9 s .i64 .i64 (l : Int) (h : Int) Tryd.underlying9 (by omega) (by omega) (by omega), hX, ← cut_is]
  rfl
theorem slice_lh' (s X : ByteArray) (l h : Nat) (a b : Int) (ha : a = (l : Int)) (hb : b = (h : Int)) (hl : l ≤ h) (hh : h ≤ s.size) (hX : X = tx ((s.data.toList.drop l).take (h - l))) (u : World) : (Instr.slice 9 (.string s) (some (.int .i64 a)) (some (.int .i64 b)) none).run Tryd.prog u = .ok (.string X) u := by
  rw [ha, hb]
  exact slice_lh s X l h hl hh hX u
theorem slice_l (s X : ByteArray) (l : Nat) (hl : l ≤ s.size) (hX : X = tx (s.data.toList.drop l)) (u : World) : (Instr.slice 9 (.string s) (some (.int .i64 (l : Int))) none none).run Tryd.prog u = .ok (.string X) u := by
  rw [run_slice_string_l (P := Tryd.prog) (w := u) (t := 9) (s := s) Tryd.underlying9 .i64 (l : Int) (by omega) (by omega), cut_is]
  have e : s.size - (l : Int).toNat = (s.data.toList.drop l).length := by
    rw [List.length_drop, Array.length_toList]
    rfl
  have e2 : (l : Int).toNat = l := rfl
  rw [e, e2, List.take_length, hX]
theorem slice_l' (s X : ByteArray) (l : Nat) (a : Int) (ha : a = (l : Int)) (hl : l ≤ s.size) (hX : X = tx (s.data.toList.drop l)) (u : World) : (Instr.slice 9 (.string s) (some (.int .i64 a)) none none).run Tryd.prog u = .ok (.string X) u := by
  rw [ha]
  exact slice_l s X l hl hX u
theorem slice_h (s X : ByteArray) (h : Nat) (hh : h ≤ s.size) (hX : X = tx (s.data.toList.take h)) (u : World) : (Instr.slice 9 (.string s) none (some (.int .i64 (h : Int))) none).run Tryd.prog u = .ok (.string X) u := by
  rw [run_slice_string_h (P := Tryd.prog) (w := u) (t := 9) (s := s) Tryd.underlying9 .i64 (h : Int) (by omega) (by omega), cut_is, hX]
  rfl
theorem idx (s : ByteArray) (k : Nat) (h : k < s.size) (u : World) : (Instr.index 9 (.string s) (.int .i64 (k : Int))).run Tryd.prog u = .ok (.int .u8 ((byte s.data.toList k : Nat) : Int)) u := by
  rw [run_index_string (P := Tryd.prog) u 9 s .i64 (k : Int) Tryd.underlying9, dif_pos ⟨by omega, by omega⟩]
  have hl : k < s.data.toList.length := by rw [Array.length_toList]; exact h
  have e : byte s.data.toList k = (s.data.toList[k]).toNat := by
    unfold byte
    rw [List.getD_eq_getElem?_getD, List.getElem?_eq_getElem hl, Option.getD_some]
  rw [e]
  rfl
theorem idx' (s : ByteArray) (k : Nat) (a : Int) (ha : a = (k : Int)) (h : k < s.size) (u : World) : (Instr.index 9 (.string s) (.int .i64 a)).run Tryd.prog u = .ok (.int .u8 ((byte s.data.toList k : Nat) : Int)) u := by
  rw [ha]
  exact idx s k h u
theorem byte_lt (l : List UInt8) (k : Nat) : byte l k < 256 := by
  unfold byte
  exact UInt8.toNat_lt _
theorem take_size (b : List UInt8) (cn gn : Nat) (h : b.length = 3 + cn + gn) : (tx ((b.drop 3).take cn)).size = cn := by
  rw [tx_len, List.length_take, List.length_drop]
  omega
theorem drop_size (b : List UInt8) (cn k : Nat) (h : cn ≤ 16) : (tx (((b.drop 3).take cn).drop k)).size ≤ 16 := by
  rw [tx_len, List.length_drop, List.length_take]
  omega
theorem rest_size (b : List UInt8) (cn gn : Nat) (h : b.length = 3 + cn + gn) (hg : gn ≤ 2000) : (tx (b.drop (3 + cn))).size ≤ 100000 := by
  rw [tx_len, List.length_drop]
  omega
theorem opened_is (t : List UInt8) : opened t = (Frm.hidB (tx ((t.drop 1).take 4)).data.toList (tx (t.drop 5))).data.toList := Eq.refl _
theorem cut3 (BD TX : ByteArray) (b : List UInt8) (cn gn : Nat) (hb : b = BD.data.toList) (zBD : BD.size = 3 + cn + gn) (hTX : TX = tx ((b.drop 3).take cn)) : ∀ u, (Instr.slice 9 (.string BD) (some (.int .i64 3)) (some (.int .i64 (3 + (cn : Int)))) none).run Tryd.prog u = .ok (.string TX) u := fun u => slice_lh' BD TX 3 (3 + cn) 3 (3 + (cn : Int)) rfl (by omega) (by omega) (by omega) (by rw [hTX, hb, Nat.add_sub_cancel_left]) u
theorem cut4 (BD SG : ByteArray) (b : List UInt8) (cn gn : Nat) (hb : b = BD.data.toList) (zBD : BD.size = 3 + cn + gn) (hSG : SG = tx (b.drop (3 + cn))) : ∀ u, (Instr.slice 9 (.string BD) (some (.int .i64 (3 + (cn : Int)))) none none).run Tryd.prog u = .ok (.string SG) u := fun u => slice_l' BD SG (3 + cn) (3 + (cn : Int)) (by omega) (by omega) (by rw [hSG, hb]) u
theorem i64_in (z : Int) (h1 : 0 ≤ z) (h2 : z < 1000) : IntKind.i64.wrap z = z := by
  first
  | exact IntWalk.wrap64_in z (by omega)
  | (rw [IntKind.wrap_i64]; omega)
  | (simp [IntKind.wrap, IntKind.bits, IntKind.signed]; omega)
theorem nlt16 {n : Nat} (h : ¬ 16 < n) : ¬ (16 : Int) < (n : Int) := by omega
theorem built_none : Tryd.prog.built 44 [] = some (sayV zeroX).toArray := by kernel_rfl
theorem nothing_is : ofSay nothing = zeroX := rfl
theorem tx_back (l : List UInt8) : (tx l).data.toList = l := rfl
theorem say_lt (x : SayB) (k : Nat) (h : k < 4) : k < (sayV x).length := h
end Go.Proofs.YtedgpglldlohfaaDoor.Frl
