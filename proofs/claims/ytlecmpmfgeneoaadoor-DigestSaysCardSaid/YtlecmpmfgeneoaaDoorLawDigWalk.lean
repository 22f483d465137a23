/-
  The law DigestSays answers true where its two texts have together no more than 3000 bytes, and leaves all memory that was there as it was. Conditions: the eight words are below 2^32, the constant table lies as the program's text lays it.
-/
import Derived.Test.YtlecmpmfgeneoaaDoorRefParts
import Derived.Test.YtlecmpmfgeneoaaDoorDigFrame
import Derived.Deep.RegionHeld3
namespace Go.Proofs.YtlecmpmfgeneoaaDoor.LawDig
open Go.RowKit Mur Sha

/-- What is kept of the world through the last statement. -/
structure Keep (w0 : World) (w : World) : Prop where
  room : w0.heap.size + 1 < w.heap.size
  consts : Consts w
  below : Below w0.heap.size w0 w
theorem Keep.next {w0 w w' : World} (h : Keep w0 w) (k : Below w.heap.size w w') : Keep w0 w' :=
  ⟨Nat.lt_of_lt_of_le h.room k.size, h.consts.below h.consts.1 k, h.below.trans (k.mono h.below.size)⟩
abbrev Held (w0 : World) (a b c d e f g h : Nat) (s t : ByteArray) (w : World) : Prop :=
  w.cell? ⟨w0.heap.size, 0, none⟩ = some (.int .u32 (a : Int)) ∧ w.cell? ⟨w0.heap.size, 1, none⟩ = some (.int .u32 (b : Int)) ∧ w.cell? ⟨w0.heap.size, 2, none⟩ = some (.int .u32 (c : Int)) ∧ w.cell? ⟨w0.heap.size, 3, none⟩ = some (.int .u32 (d : Int)) ∧
  w.cell? ⟨w0.heap.size, 4, none⟩ = some (.int .u32 (e : Int)) ∧ w.cell? ⟨w0.heap.size, 5, none⟩ = some (.int .u32 (f : Int)) ∧ w.cell? ⟨w0.heap.size, 6, none⟩ = some (.int .u32 (g : Int)) ∧ w.cell? ⟨w0.heap.size, 7, none⟩ = some (.int .u32 (h : Int)) ∧
  w.cell? ⟨w0.heap.size + 1, 0, none⟩ = some (.string s) ∧ w.cell? ⟨w0.heap.size + 1, 1, none⟩ = some (.string t) ∧ Keep w0 w
theorem held_next {w0 w w' : World} {a b c d e f g h : Nat} {s t : ByteArray} (k : Held w0 a b c d e f g h s t w) (q : Below w.heap.size w w') : Held w0 a b c d e f g h s t w' := by
  obtain ⟨c0, c1, c2, c3, c4, c5, c6, c7, t0, t1, kk⟩ := k
  have hr := kk.room
  have hr0 : w0.heap.size < w.heap.size := by omega
  exact ⟨(q.cell (p := ⟨w0.heap.size, 0, none⟩) hr0).trans c0, (q.cell (p := ⟨w0.heap.size, 1, none⟩) hr0).trans c1, (q.cell (p := ⟨w0.heap.size, 2, none⟩) hr0).trans c2, (q.cell (p := ⟨w0.heap.size, 3, none⟩) hr0).trans c3,
    (q.cell (p := ⟨w0.heap.size, 4, none⟩) hr0).trans c4, (q.cell (p := ⟨w0.heap.size, 5, none⟩) hr0).trans c5, (q.cell (p := ⟨w0.heap.size, 6, none⟩) hr0).trans c6, (q.cell (p := ⟨w0.heap.size, 7, none⟩) hr0).trans c7,
    (q.cell (p := ⟨w0.heap.size + 1, 0, none⟩) hr).trans t0, (q.cell (p := ⟨w0.heap.size + 1, 1, none⟩) hr).trans t1, kk.next q⟩
theorem held_alloc {w0 w : World} {a b c d e f g h : Nat} {s t : ByteArray} (k : Held w0 a b c d e f g h s t w) (o : Obj) : Held w0 a b c d e f g h s t (w.alloc o) := held_next k ((Below.refl _ _).alloc (Nat.le_refl _) o)
theorem held_consts {w0 w : World} {a b c d e f g h : Nat} {s t : ByteArray} (k : Held w0 a b c d e f g h s t w) : Consts w := k.2.2.2.2.2.2.2.2.2.2.consts
theorem held_below {w0 w : World} {a b c d e f g h : Nat} {s t : ByteArray} (k : Held w0 a b c d e f g h s t w) : Below w0.heap.size w0 w := k.2.2.2.2.2.2.2.2.2.2.below

abbrev lits (v : S8) : Value := .agg #[.int .u32 (v.a : Int), .int .u32 (v.b : Int), .int .u32 (v.c : Int), .int .u32 (v.d : Int), .int .u32 (v.e : Int), .int .u32 (v.f : Int), .int .u32 (v.g : Int), .int .u32 (v.h : Int)]

theorem dig_block (v : S8) (s : ByteArray) (w : World) (hv : v.Ok) (hk : Consts w) : Calls Tryd.prog 12 #[v.val, .string s] w fun e w' => e = .returned (if s.size = 64 then blockOf v s.data.toList else v).val ∧ Below w.heap.size w w' := by
  by_cases h : s.size = 64
  · rw [if_pos h]; exact block_any v s w hv h hk
  · rw [if_neg h]; exact block_other v s w h
theorem ref_block (v : S8) (s : ByteArray) (w : World) (hv : v.Ok) (hs : s.size ≤ 140737488351232) : Calls Tryd.prog 13 #[v.val, .string s] w fun e w' => e = .returned (if s.size = 64 then blockOf v s.data.toList else v).val ∧ Below w.heap.size w w' := by
  by_cases h : s.size = 64
  · rw [if_pos h]; exact RefSha.block_any v s w hv h
  · rw [if_neg h]; exact RefSha.block_other v s w hs h

set_option maxRecDepth 100000 in
set_option maxHeartbeats 6400000 in
theorem law_small (a b c d e f g h k : Nat) (s t : ByteArray) (w : World) (hv : (⟨a, b, c, d, e, f, g, h⟩ : S8).Ok) (hg : s.size + t.size ≤ 3000) (hk : Consts w) :
    Calls Tryd.prog 3 #[.agg #[.int .u32 (a : Int), .int .u32 (b : Int), .int .u32 (c : Int), .int .u32 (d : Int), .int .u32 (e : Int), .int .u32 (f : Int), .int .u32 (g : Int), .int .u32 (h : Int)], .agg #[.string s, .string t], .int .u32 (k : Int)] w
      fun e w' => e = .returned (.bool true) ∧ Below w.heap.size w w' := by
  have hd1 : decide (3000 < (s.size : Int) + (t.size : Int)) = false := by simp; omega
  obtain ⟨Z, hZ⟩ : ∃ Z : ByteArray, Z = ⟨(List.replicate 64 (0 : UInt8)).toArray⟩ := ⟨_, rfl⟩
  have hZs : Z.size = 64 := by rw [hZ]; rfl
  have hmk : ∀ u : World, (Instr.makeSlice 26 (.int .i64 64) (.int .i64 64)).run Tryd.prog u = .ok (.slice (some ⟨u.heap.size, 0, none⟩) 64 64) (u.alloc (.cells (madeCells #[.int .u8 0] 64) 5)) := fun u => Lanes.make_u8 u 64 (by omega)
  have hcv := fun (u : World) => string_row (P := Tryd.prog) (RefSha.made_bytes u 64) 26 5 9 Tryd.underlying26 Tryd.underlying5 Tryd.underlying9 64 64 (by simp)
  rw [← hZ] at hcv
  obtain ⟨W2, hW2⟩ : ∃ W2 : World, W2 = (w.alloc (.cells #[.int .u32 (a : Int), .int .u32 (b : Int), .int .u32 (c : Int), .int .u32 (d : Int), .int .u32 (e : Int), .int .u32 (f : Int), .int .u32 (g : Int), .int .u32 (h : Int)] 23)).alloc (.cells #[.string s, .string t] 24) := ⟨_, rfl⟩
  have hcv2 : (convert 26 9 (.slice (some ⟨w.heap.size + 1 + 1, 0, none⟩) 64 64)).run Tryd.prog (((w.alloc (.cells #[.int .u32 (a : Int), .int .u32 (b : Int), .int .u32 (c : Int), .int .u32 (d : Int), .int .u32 (e : Int), .int .u32 (f : Int), .int .u32 (g : Int), .int .u32 (h : Int)] 23)).alloc (.cells #[.string s, .string t] 24)).alloc (.cells (madeCells #[.int .u8 0] 64) 5)) = .ok (.string Z) (((w.alloc (.cells #[.int .u32 (a : Int), .int .u32 (b : Int), .int .u32 (c : Int), .int .u32 (d : Int), .int .u32 (e : Int), .int .u32 (f : Int), .int .u32 (g : Int), .int .u32 (h : Int)] 23)).alloc (.cells #[.string s, .string t] 24)).alloc (.cells (madeCells #[.int .u8 0] 64) 5)) := by
    have e1 : W2.heap.size = w.heap.size + 1 + 1 := by rw [hW2]; simp
    rw [← hW2, ← e1]
    exact hcv W2
  have hS2 : Held w a b c d e f g h s t W2 := by
    have hbel : Below w.heap.size w W2 := by rw [hW2]; exact ((Below.refl _ _).alloc (Nat.le_refl _) _).alloc (by simp) _
    have hA : Whole W2 w.heap.size 23 (⟨a, b, c, d, e, f, g, h⟩ : S8).cells.toList := by rw [hW2]; exact (Whole.made' w _ (⟨a, b, c, d, e, f, g, h⟩ : S8).cells _ rfl).alloc _
    obtain ⟨c0, c1, c2, c3, c4, c5, c6, c7⟩ := whole_cells hA
    exact ⟨c0, c1, c2, c3, c4, c5, c6, c7, by rw [hW2]; simp, by rw [hW2]; simp, by rw [hW2]; simp, hk.below hk.1 hbel, hbel⟩
  have HS2 := Lib.hid hS2
  have HS3 : Hid (Held w a b c d e f g h s t (((w.alloc (.cells #[.int .u32 (a : Int), .int .u32 (b : Int), .int .u32 (c : Int), .int .u32 (d : Int), .int .u32 (e : Int), .int .u32 (f : Int), .int .u32 (g : Int), .int .u32 (h : Int)] 23)).alloc (.cells #[.string s, .string t] 24)).alloc (.cells (madeCells #[.int .u8 0] 64) 5))) := by rw [← hW2]; exact Lib.hid (held_alloc hS2 _)
  clear hS2 HS2 hcv hW2 W2
  have hsz : (s ++ Z).size = s.size + 64 := by rw [ByteArray.size_append, hZs]
  have n1 : ¬ 9223372036854775807 < s.size + Z.size := by omega
  have n2 : (64 : Int) ≤ ((s ++ Z).size : Int) := by rw [hsz]; omega
  have HK := Lib.hid hk
  have HV := Lib.hid hv
  clear hZ hk hv
  go_enter Tryd.func3, Tryd.ntmps3
  go_upto_region 5 with (fail)
  have HZS := Lib.hid hsz
  clear hd1 hmk hcv2 n1 n2 hsz hZs
  generalize (((w.alloc (.cells #[.int .u32 (a : Int), .int .u32 (b : Int), .int .u32 (c : Int), .int .u32 (d : Int), .int .u32 (e : Int), .int .u32 (f : Int), .int .u32 (g : Int), .int .u32 (h : Int)] 23)).alloc (.cells #[.string s, .string t] 24)).alloc (.cells (madeCells #[.int .u8 0] 64) 5)) = wx at *
  have HS4 := Lib.hid (held_next HS3.out ((Below.refl wx.heap.size wx).drew))
  clear HS3
  obtain ⟨B0, hB0⟩ : ∃ B0, B0 = (s ++ Z).extract 0 64 := ⟨_, rfl⟩
  rw [← hB0]
  have hB64 : B0.size = 64 := by rw [hB0, ByteArray.size_extract, HZS.out]; omega
  obtain ⟨R, hR⟩ : ∃ R, R = roundOf (⟨a, b, c, d, e, f, g, h⟩ : S8) k := ⟨_, rfl⟩
  obtain ⟨T, hT⟩ : ∃ T, T = blockOf (⟨a, b, c, d, e, f, g, h⟩ : S8) B0.data.toList := ⟨_, rfl⟩
  obtain ⟨U, hU⟩ : ∃ U, U = if s.size = 64 then blockOf (⟨a, b, c, d, e, f, g, h⟩ : S8) s.data.toList else (⟨a, b, c, d, e, f, g, h⟩ : S8) := ⟨_, rfl⟩
  obtain ⟨A, hA⟩ : ∃ A : ByteArray, A = ⟨(sha s.data.toList).toArray⟩ := ⟨_, rfl⟩
  obtain ⟨PP, hPP⟩ : ∃ PP : ByteArray, PP = ⟨(sha (parts [s.data.toList, t.data.toList])).toArray⟩ := ⟨_, rfl⟩
  have R1 := Lib.hid (show ∀ u, Calls Tryd.prog 10 #[.agg #[.int .u32 (a : Int), .int .u32 (b : Int), .int .u32 (c : Int), .int .u32 (d : Int), .int .u32 (e : Int), .int .u32 (f : Int), .int .u32 (g : Int), .int .u32 (h : Int)], .int .u32 (k : Int)] u fun e w' => e = .returned (.agg #[.int .u32 (R.a : Int), .int .u32 (R.b : Int), .int .u32 (R.c : Int), .int .u32 (R.d : Int), .int .u32 (R.e : Int), .int .u32 (R.f : Int), .int .u32 (R.g : Int), .int .u32 (R.h : Int)]) ∧ Below u.heap.size u w' from fun u => by rw [hR]; exact Sha.round_any _ k u HV.out)
  have R2 := Lib.hid (show ∀ u, Calls Tryd.prog 11 #[.agg #[.int .u32 (a : Int), .int .u32 (b : Int), .int .u32 (c : Int), .int .u32 (d : Int), .int .u32 (e : Int), .int .u32 (f : Int), .int .u32 (g : Int), .int .u32 (h : Int)], .int .u32 (k : Int)] u fun e w' => e = .returned (.agg #[.int .u32 (R.a : Int), .int .u32 (R.b : Int), .int .u32 (R.c : Int), .int .u32 (R.d : Int), .int .u32 (R.e : Int), .int .u32 (R.f : Int), .int .u32 (R.g : Int), .int .u32 (R.h : Int)]) ∧ Below u.heap.size u w' from fun u => by rw [hR]; exact RefSha.round_any _ k u HV.out)
  have B1 := Lib.hid (show ∀ u, Consts u → Calls Tryd.prog 12 #[.agg #[.int .u32 (a : Int), .int .u32 (b : Int), .int .u32 (c : Int), .int .u32 (d : Int), .int .u32 (e : Int), .int .u32 (f : Int), .int .u32 (g : Int), .int .u32 (h : Int)], .string B0] u fun e w' => e = .returned (.agg #[.int .u32 (T.a : Int), .int .u32 (T.b : Int), .int .u32 (T.c : Int), .int .u32 (T.d : Int), .int .u32 (T.e : Int), .int .u32 (T.f : Int), .int .u32 (T.g : Int), .int .u32 (T.h : Int)]) ∧ Below u.heap.size u w' from fun u hu => by rw [hT]; exact Sha.block_any _ B0 u HV.out hB64 hu)
  have B2 := Lib.hid (show ∀ u, Calls Tryd.prog 13 #[.agg #[.int .u32 (a : Int), .int .u32 (b : Int), .int .u32 (c : Int), .int .u32 (d : Int), .int .u32 (e : Int), .int .u32 (f : Int), .int .u32 (g : Int), .int .u32 (h : Int)], .string B0] u fun e w' => e = .returned (.agg #[.int .u32 (T.a : Int), .int .u32 (T.b : Int), .int .u32 (T.c : Int), .int .u32 (T.d : Int), .int .u32 (T.e : Int), .int .u32 (T.f : Int), .int .u32 (T.g : Int), .int .u32 (T.h : Int)]) ∧ Below u.heap.size u w' from fun u => by rw [hT]; exact RefSha.block_any _ B0 u HV.out hB64)
  have U1 := Lib.hid (show ∀ u, Consts u → Calls Tryd.prog 12 #[.agg #[.int .u32 (a : Int), .int .u32 (b : Int), .int .u32 (c : Int), .int .u32 (d : Int), .int .u32 (e : Int), .int .u32 (f : Int), .int .u32 (g : Int), .int .u32 (h : Int)], .string s] u fun e w' => e = .returned (.agg #[.int .u32 (U.a : Int), .int .u32 (U.b : Int), .int .u32 (U.c : Int), .int .u32 (U.d : Int), .int .u32 (U.e : Int), .int .u32 (U.f : Int), .int .u32 (U.g : Int), .int .u32 (U.h : Int)]) ∧ Below u.heap.size u w' from fun u hu => by rw [hU]; exact dig_block _ s u HV.out hu)
  have U2 := Lib.hid (show ∀ u, Calls Tryd.prog 13 #[.agg #[.int .u32 (a : Int), .int .u32 (b : Int), .int .u32 (c : Int), .int .u32 (d : Int), .int .u32 (e : Int), .int .u32 (f : Int), .int .u32 (g : Int), .int .u32 (h : Int)], .string s] u fun e w' => e = .returned (.agg #[.int .u32 (U.a : Int), .int .u32 (U.b : Int), .int .u32 (U.c : Int), .int .u32 (U.d : Int), .int .u32 (U.e : Int), .int .u32 (U.f : Int), .int .u32 (U.g : Int), .int .u32 (U.h : Int)]) ∧ Below u.heap.size u w' from fun u => by rw [hU]; exact ref_block _ s u HV.out (by omega))
  have O1 := Lib.hid (show ∀ u, Consts u → Calls Tryd.prog 14 #[.string s] u fun e w' => e = .returned (.string A) ∧ Below u.heap.size u w' from fun u hu => by rw [hA]; exact Sha.of_any s u (by omega) hu)
  have O2 := Lib.hid (show ∀ u, Calls Tryd.prog 15 #[.string s] u fun e w' => e = .returned (.string A) ∧ Below u.heap.size u w' from fun u => by rw [hA]; exact RefSha.of_any s u (by omega))
  have P1 := Lib.hid (show ∀ (b0 : Nat) (u : World), b0 < u.heap.size → u.cell? ⟨b0, 0, none⟩ = some (.string s) → u.cell? ⟨b0, 1, none⟩ = some (.string t) → Consts u → Calls Tryd.prog 16 #[.slice (some ⟨b0, 0, none⟩) 2 2] u fun e w' => e = .returned (.string PP) ∧ Below u.heap.size u w' from fun b0 u h0 h1 h2 hu => by rw [hPP]; exact Sha.parts_two s t b0 u (by omega) h0 h1 h2 hu)
  have P2 := Lib.hid (show ∀ (b0 : Nat) (u : World), b0 < u.heap.size → u.cell? ⟨b0, 0, none⟩ = some (.string s) → u.cell? ⟨b0, 1, none⟩ = some (.string t) → Calls Tryd.prog 17 #[.slice (some ⟨b0, 0, none⟩) 2 2] u fun e w' => e = .returned (.string PP) ∧ Below u.heap.size u w' from fun b0 u h0 h1 h2 => by rw [hPP]; exact RefSha.parts_two s t b0 u (by omega) h0 h1 h2)
  have heqS := fun w => eq_same 1779033703 3144134277 1013904242 2773480762 1359893119 2600822924 528734635 1541459225 w
  have heqR := fun w => eq_same (R.a : Int) R.b R.c R.d R.e R.f R.g R.h w
  have heqT := fun w => eq_same (T.a : Int) T.b T.c T.d T.e T.f T.g T.h w
  have heqU := fun w => eq_same (U.a : Int) U.b U.c U.d U.e U.f U.g U.h w
  clear hB0 hB64 hR hT hU hA hPP HZS HK HV
  go_region_held3 (fun w' => w'.cell? ⟨w.heap.size, 0, none⟩ = some (.int .u32 (a : Int)) ∧ w'.cell? ⟨w.heap.size, 1, none⟩ = some (.int .u32 (b : Int)) ∧ w'.cell? ⟨w.heap.size, 2, none⟩ = some (.int .u32 (c : Int)) ∧ w'.cell? ⟨w.heap.size, 3, none⟩ = some (.int .u32 (d : Int)) ∧ w'.cell? ⟨w.heap.size, 4, none⟩ = some (.int .u32 (e : Int)) ∧ w'.cell? ⟨w.heap.size, 5, none⟩ = some (.int .u32 (f : Int)) ∧ w'.cell? ⟨w.heap.size, 6, none⟩ = some (.int .u32 (g : Int)) ∧ w'.cell? ⟨w.heap.size, 7, none⟩ = some (.int .u32 (h : Int)) ∧ w'.cell? ⟨w.heap.size + 1, 0, none⟩ = some (.string s) ∧ w'.cell? ⟨w.heap.size + 1, 1, none⟩ = some (.string t) ∧ Keep w w')
    (first | exact HS4.out | assumption | exact held_next (by assumption) (by assumption) | exact held_alloc (by assumption) _)
    (first
      | (go_at_call 8; refine (Sha.start_lit _).mono ?_; rintro e w' ⟨rfl, hb⟩)
      | (go_at_call 9; refine (RefSha.start_lit _).mono ?_; rintro e w' ⟨rfl, hb⟩)
      | (go_at_call 10; with_reducible refine Calls.mono (R1.out _) ?_; rintro e w' ⟨rfl, hb⟩)
      | (go_at_call 11; with_reducible refine Calls.mono (R2.out _) ?_; rintro e w' ⟨rfl, hb⟩)
      | (go_at_call 12; with_reducible refine Calls.mono (B1.out _ (held_consts (by assumption))) ?_; rintro e w' ⟨rfl, hb⟩)
      | (go_at_call 12; with_reducible refine Calls.mono (U1.out _ (held_consts (by assumption))) ?_; rintro e w' ⟨rfl, hb⟩)
      | (go_at_call 13; with_reducible refine Calls.mono (B2.out _) ?_; rintro e w' ⟨rfl, hb⟩)
      | (go_at_call 13; with_reducible refine Calls.mono (U2.out _) ?_; rintro e w' ⟨rfl, hb⟩)
      | (go_at_call 14; with_reducible refine Calls.mono (O1.out _ (held_consts (by assumption))) ?_; rintro e w' ⟨rfl, hb⟩)
      | (go_at_call 15; with_reducible refine Calls.mono (O2.out _) ?_; rintro e w' ⟨rfl, hb⟩)
      | (go_at_call 16; refine Calls.mono (P1.out _ _ (by first | (simp; done) | (simp; omega)) (by first | (simp; done) | (rw [World.cell?_alloc_lt _ _ _ (by simp)]; simp; done)) (by first | (simp; done) | (rw [World.cell?_alloc_lt _ _ _ (by simp)]; simp; done)) (held_consts (by assumption))) ?_; rintro e w' ⟨rfl, hb⟩)
      | (go_at_call 17; refine Calls.mono (P2.out _ _ (by first | (simp; done) | (simp; omega)) (by first | (simp; done) | (rw [World.cell?_alloc_lt _ _ _ (by simp)]; simp; done)) (by first | (simp; done) | (rw [World.cell?_alloc_lt _ _ _ (by simp)]; simp; done))) ?_; rintro e w' ⟨rfl, hb⟩)
      | (go_at_call 17; refine Calls.mono (P2.out _ _ (Nat.lt_of_lt_of_le (by first | (simp; done) | (simp; omega)) hb.size) ((hb.cell (by first | (simp; done) | (simp; omega))).trans (by first | (simp; done) | (rw [World.cell?_alloc_lt _ _ _ (by simp)]; simp; done))) ((hb.cell (by first | (simp; done) | (simp; omega))).trans (by first | (simp; done) | (rw [World.cell?_alloc_lt _ _ _ (by simp)]; simp; done)))) ?_; rintro e w' ⟨rfl, hb⟩)
      | (go_at_call 7; refine (awake_any _ (held_consts (by assumption))).mono ?_; rintro e w' ⟨rfl, hb⟩))
  all_goals
    go_wp2
    go_ret
    have hkk : Held w a b c d e f g h s t w' := by assumption
    exact ⟨rfl, held_below hkk⟩
end Go.Proofs.YtlecmpmfgeneoaaDoor.LawDig
