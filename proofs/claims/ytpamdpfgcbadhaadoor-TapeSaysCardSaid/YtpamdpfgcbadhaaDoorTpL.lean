/-
  lay of package tape: a text with its length ahead, laid into a block of bytes from a place on. Conditions: the text has at most 6000 bytes; what is laid has room.
-/
import Derived.Test.YtpamdpfgcbadhaaDoorTpG
namespace Go.Proofs.YtpamdpfgcbadhaaDoor.Tape
open Go.RowKit Mur Prt Lanes Tap Cel RTap Hold
set_option maxRecDepth 100000
set_option linter.unusedSimpArgs false

theorem elem_u8 : Tryd.prog.elem 51 = 5 := by simp [Program.elem, Tryd.underlying51]
theorem und_u8 : Tryd.prog.underlying 51 = some (.slice (Tryd.prog.elem 51)) := by rw [elem_u8]; exact Tryd.underlying51
/-- Where what is behind place k of a slice of bytes begins: where nothing is behind it, the slice's own beginning. -/
def onward (o k c : Nat) : Nat := if c = k then o else o + k
theorem onward_plain {o k c : Nat} (h : k < c) : onward o k c = o + k := by rw [onward, if_neg (by omega)]
theorem bytes_from (b o n k : Nat) (h : k ≤ n) (z : Int) (hz : z = (k : Int)) (u : World) : (Instr.slice 51 (.slice (some ⟨b, o, none⟩) n n) (some (.int .i64 z)) none none).run Tryd.prog u = .ok (.slice (some ⟨b, onward o k n, none⟩) (n - k) (n - k)) u := by
  subst hz
  rw [run_slice_l u 51 _ n n und_u8 .i64 (k : Int) (by omega) (by omega), elem_u8, size_u8]
  have : ((k : Int)).toNat = k := by omega
  simp only [Result.andThen, sliced, this, onward]
  by_cases hk : n = k
  · rw [if_pos hk, if_pos hk]
  · rw [if_neg hk, if_neg hk]
    show Result.ok (Value.slice (some ((⟨b, o, none⟩ : Addr).add (k * 1))) (n - k) (n - k)) u = _
    rw [Go.WideShapes.add_plain, Nat.mul_one]

section
variable {P : Program} {ops : Array Oper} {rest : List Oper} {op : Oper} {a : Act} {w w0 : World} {m : List Blk} {Q : Exit → Act → World → Prop}
/-- 'copy' of a whole text into a block of bytes, from place o on. -/
theorem copyTextAt (h : Hld w0 m w) (i : Nat) {b q o L C : Nat} {dT sT elem t : TypeId} {v v' : List Value} {s : ByteArray} {d x : Operand} (hg : op.guard = none) (ho : op.op = .call { callee := .builtin .copy, args := #[d, x], argTypes := #[dT, sT] }) (hd : a.eval d = .slice (some ⟨b, q, none⟩) L C) (hx : a.eval x = .string s)
    (hi : m[i]? = some ⟨b, t, v⟩) (hu : P.underlying dT = some (.slice elem)) (hz : ∀ w, (Go.sizeOf elem).run P w = .ok 1 w) (hl : s.size ≤ L) (hq : s.size ≠ 0 → q = o) (hv : o + s.size ≤ v.length) (hv' : lay v o (bytesV s.data.toList) = v')
    (hk : ∀ w', Hld w0 (m.set i ⟨b, t, v'⟩) w' → wpList P ops Q rest (a.put op.dst (goInt (s.size : Nat))) w') : wpList P ops Q (op :: rest) a w := by
  refine wpList_plain hg fun K hK => ?_
  have hsz : (bytesV s.data.toList).length = s.size := by rw [bytesV_length]; rfl
  have hmin : s.size.min L = s.size := Nat.min_eq_left hl
  have hst : (storeCells ⟨b, q, none⟩ (bytesV s.data.toList)).run P w = .ok () (w.setCells b o (bytesV s.data.toList)) := by
    by_cases h0 : s.size = 0
    · have e : bytesV s.data.toList = [] := List.eq_nil_of_length_eq_zero (by rw [hsz]; exact h0)
      rw [e]
      rfl
    · obtain rfl := hq h0
      have hth := h.there i hi q s.size hv
      have hst := run_storeCells_cells (P := P) b q (bytesV s.data.toList) 0 w (by rw [hsz]; intro j hj; simpa using (hth j hj).1) (by rw [hsz]; intro j hj; simpa using (hth j hj).2) (by
        intro x hx
        obtain ⟨y, -, rfl⟩ := List.mem_map.1 hx
        rfl)
      rw [Nat.add_zero] at hst
      exact hst
  have hrun : (Builtin.copy_ #[dT, sT] op.type #[.slice (some ⟨b, q, none⟩) L C, .string s]).run P w = .ok (goInt (s.size : Nat)) (w.setCells b o (bytesV s.data.toList)) := by
    have hst' : (storeCells ⟨b, q, none⟩ (List.take s.size (List.map (fun b => Value.int .u8 (b.toNat : Int)) s.data.toList))).run P w = .ok () (w.setCells b o (bytesV s.data.toList)) := by
      have e : List.take s.size (List.map (fun b => Value.int .u8 (b.toNat : Int)) s.data.toList) = bytesV s.data.toList := List.take_of_length_le (by rw [List.length_map]; exact Nat.le_refl _)
      rw [e]
      exact hst
    simp [Builtin.copy_, run_underlying hu, Builtin.lenOf, Builtin.firstCells, hz, hmin, hst']
  unfold Oper.wp
  simp [execOp, ho, resolve, invoke, builtin, hd, hx, hrun, Result.andThen]
  refine hK _ _ (hk _ ?_)
  have := h.set i hi o (bytesV s.data.toList)
  rw [← hv']
  exact this
end

theorem tell_two (s : List UInt8) (_ : s.length ≤ 6000) : tell s = UInt8.ofNat (s.length / 256) :: UInt8.ofNat (s.length % 256) :: s := by
  have e : UInt8.ofNat (s.length % 256) = UInt8.ofNat s.length := by
    apply UInt8.toNat_inj.1
    rw [UInt8.toNat_ofNat', UInt8.toNat_ofNat']
    omega
  rw [tell, high_two, e]
  rfl
theorem bytesV_append (l m : List UInt8) : bytesV (l ++ m) = bytesV l ++ bytesV m := by simp [bytesV]
theorem set_at (X : List UInt8) (g x : UInt8) (R : List UInt8) (p : Nat) (z : Int) (hp : X.length = p) (hz : z = (x.toNat : Int)) : (bytesV (X ++ g :: R)).set p (.int .u8 z) = bytesV (X ++ x :: R) := by
  subst hz
  rw [bytesV_set]
  congr 1
  rw [List.set_append_right _ _ (by omega), hp, Nat.sub_self]
  rfl

set_option maxHeartbeats 1600000 in
theorem lay_any (w0 w : World) (b : Nat) (m : List Blk) (X G Y : List UInt8) (p n : Nat) (s : ByteArray) (hX : X.length = p) (hG : G.length = 2 + s.size) (hn : n = 2 + s.size + Y.length) (hs : s.size ≤ 6000) (hn2 : n ≤ 100000000) (h : Hld w0 (⟨b, 5, bytesV (X ++ (G ++ Y))⟩ :: m) w) :
    Calls Tryd.prog 41 #[.slice (some ⟨b, p, none⟩) n n, .string s] w fun e w' => e = .returned (.slice (some ⟨b, onward p (2 + s.size) n, none⟩) Y.length Y.length) ∧ Hld w0 (⟨b, 5, bytesV (X ++ (tell s.data.toList ++ Y))⟩ :: m) w' := by
  match G, hG with
  | [], hG => simp at hG; omega
  | [_], hG => simp at hG; omega
  | g0 :: g1 :: G, hG =>
    have hGl : G.length = s.size := by simp at hG; omega
    have hp8 : (2 : Int) ^ 8 = 256 := by decide
    have hlen : (bytesV (X ++ (g0 :: g1 :: G ++ Y))).length = p + n := by rw [bytesV_length, List.length_append, hX, List.length_append, List.length_cons, List.length_cons, hGl, hn]; omega
    have hs0 := bytes_from b p n 2 (by omega) 2 rfl
    have hs1 := bytes_from b p n (2 + s.size) (by omega) (2 + (s.size : Int)) (by omega)
    rw [show n - (2 + s.size) = Y.length by omega] at hs1
    obtain ⟨q0, hq0⟩ : ∃ q, q = onward p 2 n := ⟨_, rfl⟩
    obtain ⟨q1, hq1⟩ : ∃ q, q = onward p (2 + s.size) n := ⟨_, rfl⟩
    rw [← hq0] at hs0
    rw [← hq1] at hs1 ⊢
    have hqp : s.size ≠ 0 → q0 = p + 2 := fun h0 => by rw [hq0, onward_plain (by omega)]
    obtain ⟨V0, hV0⟩ : ∃ V, V = bytesV (X ++ (g0 :: g1 :: G ++ Y)) := ⟨_, rfl⟩
    obtain ⟨V1, hV1⟩ : ∃ V, V = bytesV (X ++ UInt8.ofNat (s.size / 256) :: g1 :: (G ++ Y)) := ⟨_, rfl⟩
    obtain ⟨V2, hV2⟩ : ∃ V, V = bytesV (X ++ UInt8.ofNat (s.size / 256) :: UInt8.ofNat (s.size % 256) :: (G ++ Y)) := ⟨_, rfl⟩
    obtain ⟨V3, hV3⟩ : ∃ V, V = bytesV (X ++ (tell s.data.toList ++ Y)) := ⟨_, rfl⟩
    have e1 : V0.set p (.int .u8 ((s.size : Int) / 256)) = V1 := by
      rw [hV0, hV1]
      refine set_at X g0 _ (g1 :: (G ++ Y)) p _ hX ?_
      rw [UInt8.toNat_ofNat']
      omega
    have e2 : V1.set (p + 1) (.int .u8 ((s.size : Int) % 256)) = V2 := by
      rw [hV1, hV2]
      have := set_at (X ++ [UInt8.ofNat (s.size / 256)]) g1 (UInt8.ofNat (s.size % 256)) (G ++ Y) (p + 1) ((s.size : Int) % 256) (by simp [hX]) (by rw [UInt8.toNat_ofNat']; omega)
      simpa using this
    have e3 : lay V2 (p + 2) (bytesV s.data.toList) = V3 := by
      rw [hV2, hV3, tell_two _ hs]
      have e4 : X ++ UInt8.ofNat (s.size / 256) :: UInt8.ofNat (s.size % 256) :: (G ++ Y) = (X ++ [UInt8.ofNat (s.size / 256), UInt8.ofNat (s.size % 256)]) ++ (G ++ Y) := by simp
      rw [e4, bytesV_append, bytesV_append G Y, lay_at (by rw [bytesV_length, List.length_append, hX]; rfl) (by rw [bytesV_length, bytesV_length, hGl]; rfl), ← bytesV_append, ← bytesV_append]
      congr 1
      show _ = X ++ (UInt8.ofNat (s.size / 256) :: UInt8.ofNat (s.size % 256) :: s.data.toList ++ Y)
      simp
    have l0 : V0.length = p + n := by rw [hV0]; exact hlen
    have l1 : V1.length = p + n := by rw [← e1, List.length_set]; exact l0
    have l2 : V2.length = p + n := by rw [← e2, List.length_set]; exact l1
    rw [← hV0] at h
    rw [← hV3]
    have HM := Lib.hid h
    have E1 := Lib.hid e1
    have E2 := Lib.hid e2
    have E3 := Lib.hid e3
    have L0 := Lib.hid l0
    have L1 := Lib.hid l1
    have L2 := Lib.hid l2
    have HQP := Lib.hid hqp
    have HN := Lib.hid hn
    have HSZ := Lib.hid size_u8
    have tyb : Hold.TyCell Tryd.prog 5 := ⟨_, Tryd.underlying5, rfl, by kernel_rfl⟩
    have hn0 : (0 : Int) < (n : Int) := by omega
    have hn1 : (1 : Int) < (n : Int) := by omega
    have HT := Lib.hid tyb
    clear h e1 e2 e3 l0 l1 l2 hqp hV0 hV1 hV2 hV3 hq0 hq1 hX hG hGl hn hlen tyb
    go_enter Tryd.func41, Tryd.ntmps41
    go_upto_region 2 with ((first
      | (with_reducible refine Hold.store1 HM.out 0 (v' := V1) (c := .int .u8 ((s.size : Int) / 256)) rfl rfl rfl rfl rfl (by rw [L0.out]; omega) E1.out ⟨rfl, rfl⟩ HT.out ?_; clear HM; intro w HM; simp only [List.set_cons_zero] at HM; replace HM := Lib.hid HM)
      | (with_reducible refine Hold.store1 HM.out 0 (v' := V2) (c := .int .u8 ((s.size : Int) % 256)) rfl rfl rfl rfl rfl (by rw [L1.out]; omega) E2.out ⟨rfl, rfl⟩ HT.out ?_; clear HM; intro w HM; simp only [List.set_cons_zero] at HM; replace HM := Lib.hid HM)))
    go_wp2_with ((first
      | (with_reducible refine copyTextAt HM.out 0 (o := p + 2) (v' := V3) rfl rfl rfl rfl rfl Tryd.underlying51 HSZ.out (by have := HN.out; omega) HQP.out (by rw [L2.out]; have := HN.out; omega) E3.out ?_; clear HM; intro w HM; simp only [List.set_cons_zero] at HM; replace HM := Lib.hid HM)))
    go_ret
    exact ⟨rfl, HM.out⟩
end Go.Proofs.YtpamdpfgcbadhaaDoor.Tape
