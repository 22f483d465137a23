/-
  stream.Mixed answers what the plain mathematics of the text Cha says, and leaves all memory that was there as it was. Condition: the state has sixteen words below 2^32.
-/
import Derived.Test.YtcglobpklhkebabChaQ
import Derived.Test.YtcglobpklhkebabWhole
import Derived.Test.YtcglobpklhkebabReg
import Derived.Deep.CutBlock
namespace Go.Proofs.Ytcglobpklhkebab.Cha
open Go.RowKit Mur Lanes
set_option maxRecDepth 100000

abbrev zeros16 : List Value := [.int .u32 0, .int .u32 0, .int .u32 0, .int .u32 0, .int .u32 0, .int .u32 0, .int .u32 0, .int .u32 0, .int .u32 0, .int .u32 0, .int .u32 0, .int .u32 0, .int .u32 0, .int .u32 0, .int .u32 0, .int .u32 0]
theorem size16 : (Try.prog.info? 51).map (·.size) = some 16 := by kernel_rfl
theorem info16 {s : List Nat} (h : s.length = 16) : (Try.prog.info? 51).map (·.size) = some (wordsV s).length := by rw [wordsV_length, h]; exact size16
theorem infoA16 {s : List Nat} (h : s.length = 16) : (Try.prog.info? 51).map (·.size) = some (wordsV s).toArray.size := by simp [wordsV_length, h, size16]
theorem long16 {s : List Nat} (h : s.length = 16) : zeros16.toArray.size = (wordsV s).toArray.size := by simp [wordsV_length, h]
theorem one16 (s : List Nat) : (wordsV s).toArray.all (·.oneCell') = true := by simp [wordsV, Value.oneCell']
/-- A cell of a row of words. -/
theorem word_cell {w : World} {b : Nat} {t : TypeId} {s : List Nat} (h : Whole w b t (wordsV s)) {i : Nat} (hi : i < s.length) : w.cell? ⟨b, i, none⟩ = some (.int .u32 ((s.getD i 0 : Nat) : Int)) := by
  rw [h.row.cell (wordsV_at hi)]
  simp [List.getD, hi]
theorem word_free {w : World} {b : Nat} {t : TypeId} {s : List Nat} (h : Whole w b t (wordsV s)) {i : Nat} (hi : i < s.length) : w.frozen? ⟨b, i, none⟩ = false :=
  h.row.free (by rw [wordsV_length]; exact hi)
theorem set_word {w : World} {b : Nat} {t : TypeId} {s : List Nat} (h : Whole w b t (wordsV s)) (i x : Nat) : Whole (w.setCell ⟨b, i, none⟩ (.int .u32 (x : Int))) b t (wordsV (s.set i x)) := by
  rw [← wordsV_set]
  exact h.set i _
theorem put_words {w : World} {b : Nat} {t : TypeId} {s : List Nat} (h : Whole w b t (wordsV s)) (i j k l : Nat) (q : Q4) :
    Whole ((((w.setCell ⟨b, i, none⟩ (.int .u32 (q.a : Int))).setCell ⟨b, j, none⟩ (.int .u32 (q.b : Int))).setCell ⟨b, k, none⟩ (.int .u32 (q.c : Int))).setCell ⟨b, l, none⟩ (.int .u32 (q.d : Int))) b t (wordsV (put4 s i j k l q)) :=
  set_word (set_word (set_word (set_word h i q.a) j q.b) k q.c) l q.d

/-- The slants below t. -/
def slants (s : List Nat) : Nat → List Nat
  | 0 => s
  | t + 1 => slant (slants s t) t 4
theorem Words16.slants {s : List Nat} (h : Words16 s) (t : Nat) : Words16 (slants s t) := by
  induction t with
  | zero => exact h
  | succ t ih => exact ih.slant _ _

def Two (w0 : World) (b : Nat) (s : List Nat) (w : World) : Prop := Whole w b 51 (wordsV s) ∧ Whole w (b + 1) 51 zeros16 ∧ Below w0.heap.size w0 w
theorem Two.drew {w0 w : World} {b : Nat} {s : List Nat} (h : Two w0 b s w) : Two w0 b s w.drew := ⟨h.1, h.2.1, h.2.2.drew⟩
theorem Two.put {w0 w : World} {b : Nat} {s : List Nat} (h : Two w0 b s w) (hb : w0.heap.size ≤ b) (i j k l : Nat) (q : Q4) :
    Two w0 b (put4 s i j k l q) ((((w.setCell ⟨b, i, none⟩ (.int .u32 (q.a : Int))).setCell ⟨b, j, none⟩ (.int .u32 (q.b : Int))).setCell ⟨b, k, none⟩ (.int .u32 (q.c : Int))).setCell ⟨b, l, none⟩ (.int .u32 (q.d : Int))) := by
  have n : b ≠ b + 1 := by omega
  exact ⟨put_words h.1 i j k l q, (((h.2.1.other _ _ _ n).other _ _ _ n).other _ _ _ n).other _ _ _ n, (((h.2.2.setCell hb _).setCell hb _).setCell hb _).setCell hb _⟩

set_option maxHeartbeats 1600000 in
theorem mixed_any (s M : List Nat) (w : World) (h : Words16 s) (hM : M = mixed s) :
    Calls Try.prog 48 #[.agg (wordsV s).toArray] w fun e w' => e = .returned (.agg (wordsV M).toArray) ∧ Below w.heap.size w w' := by
  have hM2 : M = slants s 2 := hM
  have HM := Lib.hid hM2
  have HS := Lib.hid h
  clear hM hM2 h
  have hst : Two w w.heap.size s ((w.alloc (.cells (wordsV s).toArray 51)).alloc (.cells zeros16.toArray 51)) :=
    ⟨(Whole.made' w _ (wordsV s).toArray _ rfl).alloc _, Whole.made' _ _ zeros16.toArray _ (by simp), ((Below.refl _ _).alloc (Nat.le_refl _) _).alloc (by simp) _⟩
  have HT := Lib.hid hst
  clear hst
  go_enter Try.func48, Try.ntmps48
  go_wp2
  go_loopw [8] (fun i wr => ∃ t : Nat, t ≤ 2 ∧ i = .int .i64 t ∧ Two w w.heap.size (slants s t) wr) (fun i _ => 2 - (intOf i).toNat)
  case atStart => exact ⟨0, by omega, rfl, HT.out⟩
  case round =>
    obtain ⟨t, ht2, rfl, hk⟩ := hrel
    by_cases hlt : t < 2
    · have hd2 : decide ((t : Int) < 2) = true := by simp; omega
      have hstep : slants s (t + 1) = slant (slants s t) t 4 := rfl
      have hok := HS.out.slants t
      generalize slants s t = X at *
      have HE := Lib.hid hk
      have HX := Lib.hid hok
      have HN := Lib.hid hstep
      clear hk hok hstep HT
      go_wp2
      obtain ⟨wo, rfl⟩ : ∃ wo : World, wo = wr := ⟨_, rfl⟩
      go_loopw [11] (fun i wr => ∃ k : Nat, k ≤ 4 ∧ i = .int .i64 k ∧ Two w w.heap.size (slant X t k) wr) (fun i _ => 4 - (intOf i).toNat)
      case atStart => exact ⟨0, by omega, rfl, HE.out⟩
      case round =>
        obtain ⟨k, hk4, rfl, hk⟩ := hrel
        by_cases hlk : k < 4
        · have hd4 : decide ((k : Int) < 4) = true := by simp; omega
          have hok := HX.out.slant t k
          have hnext : slant X t (k + 1) = put4 (slant X t k) k (pb t k) (pc t k) (pd t k) (quarter (at4 (slant X t k) k (pb t k) (pc t k) (pd t k))) := rfl
          generalize slant X t k = Y at *
          obtain ⟨b, hb⟩ : ∃ b, b = pb t k := ⟨_, rfl⟩
          obtain ⟨c, hc⟩ : ∃ c, c = pc t k := ⟨_, rfl⟩
          obtain ⟨d, hd⟩ : ∃ d, d = pd t k := ⟨_, rfl⟩
          rw [← hb, ← hc, ← hd] at hnext
          unfold pb at hb
          unfold pc at hc
          unfold pd at hd
          have qb : (4 : Int) + ((k : Int) + (t : Int)) % 4 = (b : Int) := by omega
          have qc : (8 : Int) + ((k : Int) + 2 * (t : Int)) % 4 = (c : Int) := by omega
          have qd : (12 : Int) + ((k : Int) + 3 * (t : Int)) % 4 = (d : Int) := by omega
          have lb : b < 16 := by omega
          have lc : c < 16 := by omega
          have ld : d < 16 := by omega
          clear hb hc hd
          have hY : Y.length = 16 := hok.1
          have ca := word_cell hk.1 (i := k) (by omega)
          have cb := word_cell hk.1 (i := b) (by omega)
          have cc := word_cell hk.1 (i := c) (by omega)
          have cd := word_cell hk.1 (i := d) (by omega)
          have fa := word_free hk.1 (i := k) (by omega)
          have fb := word_free hk.1 (i := b) (by omega)
          have fc := word_free hk.1 (i := c) (by omega)
          have fd := word_free hk.1 (i := d) (by omega)
          have o4 := hok.at4 k b c d
          obtain ⟨Q, hQ⟩ : ∃ Q, Q = quarter (at4 Y k b c d) := ⟨_, rfl⟩
          have h1 := set_word hk.1 k Q.a
          have h2 := set_word h1 b Q.b
          have h3 := set_word h2 c Q.c
          have cb1 := word_cell h1 (i := b) (by simp; omega)
          have cc1 := word_cell h2 (i := c) (by simp; omega)
          have cd1 := word_cell h3 (i := d) (by simp; omega)
          clear h1 h2 h3
          rw [← hQ] at hnext
          unfold at4 at hQ o4
          have R := Lib.hid (fun u => quarter_any _ _ _ _ Q u o4 hQ)
          have HP := Lib.hid (hk.put (Nat.le_refl _) k b c d Q).drew
          have HNX := Lib.hid hnext
          clear hk hok hnext hQ o4 hY HE HX
          go_upto_region 8 with (fail)
          have ia : (k : Int) < 16 := by omega
          have ib : (b : Int) < 16 := by omega
          have ic : (c : Int) < 16 := by omega
          have id' : (d : Int) < 16 := by omega
          clear qb qc qd
          refine wp_region_any (by kernel_rfl) ?_
          change wpAny _ _ _ _ _ _ _ (World.drew _)
          refine wpAny_take (i := 0) (v := .int .i64 (k : Int)) rfl (by kernel_rfl) (by kernel_rfl) (by kernel_rfl) (fun _ _ _ h => h) (Or.inl ⟨by rfl, fun u => by go_simp⟩) ?_
          try simp only [Act.put]
          refine wpAny_take (i := 1) (v := .int .i64 (b : Int)) rfl (by kernel_rfl) (by kernel_rfl) (by kernel_rfl) (fun _ _ _ h => h) (Or.inl ⟨by rfl, fun u => by go_simp⟩) ?_
          try simp only [Act.put]
          refine wpAny_take (i := 2) (v := .int .i64 (c : Int)) rfl (by kernel_rfl) (by kernel_rfl) (by kernel_rfl) (fun _ _ _ h => h) (Or.inl ⟨by rfl, fun u => by go_simp⟩) ?_
          try simp only [Act.put]
          refine wpAny_take (i := 3) (v := .int .i64 (d : Int)) rfl (by kernel_rfl) (by kernel_rfl) (by kernel_rfl) (fun _ _ _ h => h) (Or.inl ⟨by rfl, fun u => by go_simp⟩) ?_
          try simp only [Act.put]
          refine wpAny_take (i := 4) (v := .int .i64 (k : Int)) rfl (by kernel_rfl) (by kernel_rfl) (by kernel_rfl) (fun _ _ _ h => h) (Or.inl ⟨by rfl, fun u => by go_simp⟩) ?_
          try simp only [Act.put]
          refine wpAny_take (i := 5) (v := Value.pointer (some ⟨w.heap.size, k, none⟩)) rfl (by kernel_rfl) (by kernel_rfl) (by kernel_rfl) (fun _ _ _ h => h) (Or.inl ⟨by rfl, fun u => by go_simp⟩) ?_
          try simp only [Act.put]
          refine wpAny_take (i := 7) (v := .int .i64 (b : Int)) rfl (by kernel_rfl) (by kernel_rfl) (by kernel_rfl) (fun _ _ _ h => h) (Or.inl ⟨by rfl, fun u => by go_simp⟩) ?_
          try simp only [Act.put]
          refine wpAny_take (i := 8) (v := Value.pointer (some ⟨w.heap.size, b, none⟩)) rfl (by kernel_rfl) (by kernel_rfl) (by kernel_rfl) (fun _ _ _ h => h) (Or.inl ⟨by rfl, fun u => by go_simp⟩) ?_
          try simp only [Act.put]
          refine wpAny_take (i := 10) (v := .int .i64 (c : Int)) rfl (by kernel_rfl) (by kernel_rfl) (by kernel_rfl) (fun _ _ _ h => h) (Or.inl ⟨by rfl, fun u => by go_simp⟩) ?_
          try simp only [Act.put]
          refine wpAny_take (i := 11) (v := Value.pointer (some ⟨w.heap.size, c, none⟩)) rfl (by kernel_rfl) (by kernel_rfl) (by kernel_rfl) (fun _ _ _ h => h) (Or.inl ⟨by rfl, fun u => by go_simp⟩) ?_
          try simp only [Act.put]
          refine wpAny_take (i := 13) (v := .int .i64 (d : Int)) rfl (by kernel_rfl) (by kernel_rfl) (by kernel_rfl) (fun _ _ _ h => h) (Or.inl ⟨by rfl, fun u => by go_simp⟩) ?_
          try simp only [Act.put]
          refine wpAny_take (i := 14) (v := Value.pointer (some ⟨w.heap.size, d, none⟩)) rfl (by kernel_rfl) (by kernel_rfl) (by kernel_rfl) (fun _ _ _ h => h) (Or.inl ⟨by rfl, fun u => by go_simp⟩) ?_
          try simp only [Act.put]
          refine Reg.reads (fun i => if i = 6 then (some 38, .int .u32 ((Y.getD k 0 : Nat) : Int)) else if i = 9 then (some 41, .int .u32 ((Y.getD b 0 : Nat) : Int)) else if i = 12 then (some 44, .int .u32 ((Y.getD c 0 : Nat) : Int)) else (some 47, .int .u32 ((Y.getD d 0 : Nat) : Int))) (fuel := 14) 4 [6, 9, 12, 15] _ _ rfl (by decide) (by kernel_rfl) (by kernel_rfl) (by kernel_rfl) (fun i hi => ?_) ?_
          · simp only [List.mem_cons, List.not_mem_nil, or_false] at hi
            rcases hi with rfl | rfl | rfl | rfl <;> exact ⟨_, rfl, rfl, by go_simp⟩
          simp only [List.foldl, Nat.reduceEqDiff, if_true, if_false, Act.put]
          refine Reg.only (i := 16) rfl rfl (by kernel_rfl) (fun K hK => ?_)
          go_simp
          refine (R.out _).mono ?_
          rintro e u ⟨rfl, rfl⟩
          refine hK _ _ ?_
          clear hK K
          try simp only [Act.put]
          refine wpAny_take (i := 17) (v := .tuple #[.int .u32 (Q.a : Int), .int .u32 (Q.b : Int), .int .u32 (Q.c : Int), .int .u32 (Q.d : Int)]) rfl (by kernel_rfl) (by kernel_rfl) (by kernel_rfl) (fun _ _ _ h => h) (Or.inl ⟨by rfl, fun u => by go_simp⟩) ?_
          try simp only [Act.put]
          refine wpAny_take (i := 18) (v := .int .u32 (Q.a : Int)) rfl (by kernel_rfl) (by kernel_rfl) (by kernel_rfl) (fun _ _ _ h => h) (Or.inl ⟨by rfl, fun u => by go_simp⟩) ?_
          try simp only [Act.put]
          refine wpAny_take (i := 19) (v := .int .u32 (Q.b : Int)) rfl (by kernel_rfl) (by kernel_rfl) (by kernel_rfl) (fun _ _ _ h => h) (Or.inl ⟨by rfl, fun u => by go_simp⟩) ?_
          try simp only [Act.put]
          refine wpAny_take (i := 20) (v := .int .u32 (Q.c : Int)) rfl (by kernel_rfl) (by kernel_rfl) (by kernel_rfl) (fun _ _ _ h => h) (Or.inl ⟨by rfl, fun u => by go_simp⟩) ?_
          try simp only [Act.put]
          refine wpAny_take (i := 21) (v := .int .u32 (Q.d : Int)) rfl (by kernel_rfl) (by kernel_rfl) (by kernel_rfl) (fun _ _ _ h => h) (Or.inl ⟨by rfl, fun u => by go_simp⟩) ?_
          try simp only [Act.put]
          refine wpAny_take (i := 22) (v := Value.pointer (some ⟨w.heap.size, k, none⟩)) rfl (by kernel_rfl) (by kernel_rfl) (by kernel_rfl) (fun _ _ _ h => h) (Or.inl ⟨by rfl, fun u => by go_simp⟩) ?_
          try simp only [Act.put]
          refine Reg.only (i := 23) rfl rfl (by kernel_rfl) (fun K hK => ?_)
          go_simp
          refine hK _ _ ?_
          clear hK K
          try simp only [Act.put]
          refine wpAny_take (i := 24) (v := Value.pointer (some ⟨w.heap.size, b, none⟩)) rfl (by kernel_rfl) (by kernel_rfl) (by kernel_rfl) (fun _ _ _ h => h) (Or.inl ⟨by rfl, fun u => by go_simp⟩) ?_
          try simp only [Act.put]
          refine Reg.only (i := 25) rfl rfl (by kernel_rfl) (fun K hK => ?_)
          go_simp
          refine hK _ _ ?_
          clear hK K
          try simp only [Act.put]
          refine wpAny_take (i := 26) (v := Value.pointer (some ⟨w.heap.size, c, none⟩)) rfl (by kernel_rfl) (by kernel_rfl) (by kernel_rfl) (fun _ _ _ h => h) (Or.inl ⟨by rfl, fun u => by go_simp⟩) ?_
          try simp only [Act.put]
          refine Reg.only (i := 27) rfl rfl (by kernel_rfl) (fun K hK => ?_)
          go_simp
          refine hK _ _ ?_
          clear hK K
          try simp only [Act.put]
          refine wpAny_take (i := 28) (v := Value.pointer (some ⟨w.heap.size, d, none⟩)) rfl (by kernel_rfl) (by kernel_rfl) (by kernel_rfl) (fun _ _ _ h => h) (Or.inl ⟨by rfl, fun u => by go_simp⟩) ?_
          try simp only [Act.put]
          refine Reg.only (i := 29) rfl rfl (by kernel_rfl) (fun K hK => ?_)
          go_simp
          refine hK _ _ ?_
          clear hK K
          try simp only [Act.put]
          refine wpAny_done (by kernel_rfl) ?_ _
          go_wp2
          go_roundw
          case rel => exact ⟨k + 1, by omega, by go_num, by rw [HNX.out]; exact HP.out⟩
          case measure => simp [intOf]; omega
        · have hd4 : decide ((k : Int) < 4) = false := by simp; omega
          obtain rfl : k = 4 := by omega
          have HK := Lib.hid hk
          clear hk
          go_wp2
          go_roundw
          case rel => exact ⟨t + 1, by omega, by go_num, by rw [HN.out]; exact HK.out⟩
          case measure => simp [intOf]; omega
    · have hd2 : decide ((t : Int) < 2) = false := by simp; omega
      obtain rfl : t = 2 := by omega
      rw [← HM.out] at hk
      have hokM : Words16 M := by rw [HM.out]; exact HS.out.slants 2
      have HI := Lib.hid (info16 hokM.1)
      have HA := Lib.hid (infoA16 hokM.1)
      have HO := Lib.hid (long16 hokM.1)
      have H1 := Lib.hid (one16 M)
      have HB := Lib.hid hk
      have HB1 := Lib.hid hk.1
      have hA2 : wr.heap[w.heap.size + 1]? = some (.cells zeros16.toArray 51 (0, 0)) := hk.2.1
      have HA2 := Lib.hid hA2
      clear hk hA2 hokM
      go_wp2_with ((first
        | (with_reducible refine wpList_load_mid rfl 51 (.tmp 1) rfl w.heap.size 0 rfl (wordsV M) _ HB1.out.range Try.underlying51 rfl HI.out ?_)
        | (with_reducible refine wpList_store_row rfl 51 (.tmp 2) (.tmp 59) rfl (w.heap.size + 1) (wordsV M).toArray rfl rfl 51 zeros16.toArray HA2.out HA.out HO.out H1.out ?_)))
      refine bodyPost_ret (v := .agg (wordsV M).toArray) ?_ rfl ⟨rfl, below_setRow HB.out.2.2 (by omega) _⟩
      exact results_whole (ty := 51) Try.results48 _ _ (w.heap.size + 1) 51 (wordsV M) _ (by simp [Act.put]) (HB.out.2.1.setRow _) Try.underlying51 rfl HI.out
end Go.Proofs.Ytcglobpklhkebab.Cha
