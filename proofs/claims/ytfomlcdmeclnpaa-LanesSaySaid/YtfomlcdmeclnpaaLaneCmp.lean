/-
  The comparison of two lists of words that the statements of layer 1 use answers whether they are the same; and words and texts undo one another, as plain mathematics. Conditions: each list takes no more than the reach of the form.
-/
import Derived.Test.YtfomlcdmeclnpaaLanes
import Derived.ProofKit
import Derived.OpenShut
import Derived.Below
namespace Go.Proofs.Ytfomlcdmeclnpaa.Lanes
open Go.ChangeShapes Go.WideShapes Go.ChangeAt Go.RowKit Mur

set_option maxHeartbeats 800000 in
theorem words_ne (a c : Option Addr) (n m ca cc : Nat) (w : World) (h : n ≠ m) :
    Calls Try.prog 11 #[.slice a n ca, .slice c m cc] w fun e w' => e = .returned (.bool false) ∧ Below w.heap.size w w' := by
  have hne : ((n : Int) == (m : Int)) = false := by simp; omega
  go_enter Try.func11, Try.ntmps11
  go_wp2
  go_ret
  exact ⟨rfl, Below.refl _ _⟩
set_option maxHeartbeats 800000 in
theorem words_nil (a c : Option Addr) (ca cc : Nat) (w : World) :
    Calls Try.prog 11 #[.slice a 0 ca, .slice c 0 cc] w fun e w' => e = .returned (.bool true) ∧ Below w.heap.size w w' := by
  go_enter Try.func11, Try.ntmps11
  go_wp2
  go_loop [13] (fun i => i = .int .i64 0) (fun _ => 0)
  case atStart => rfl
  case round =>
    subst hrel
    go_wp2
    go_ret
    exact ⟨rfl, Below.refl _ _⟩
set_option maxHeartbeats 800000 in
theorem words_some (xs ys : List Nat) (b o c p ca cc : Nat) (w : World) (hn : xs.length ≤ 140737488351232) (hl : ys.length = xs.length)
    (hx : ∀ i (h : i < xs.length), w.cell? ⟨b, o + i, none⟩ = some (.int .u32 (xs[i] : Int))) (hy : ∀ i (h : i < ys.length), w.cell? ⟨c, p + i, none⟩ = some (.int .u32 (ys[i] : Int)))
    (hb : b < w.heap.size) (hc : c < w.heap.size) :
    Calls Try.prog 11 #[.slice (some ⟨b, o, none⟩) xs.length ca, .slice (some ⟨c, p, none⟩) xs.length cc] w fun e w' => e = .returned (.bool (decide (xs = ys))) ∧ Below w.heap.size w w' := by
  have HL := Lib.hid hl
  have HX := Lib.hid hx
  have HY := Lib.hid hy
  clear hl hx hy
  go_enter Try.func11, Try.ntmps11
  go_wp2
  go_loopw [13] (fun i wr => ∃ k : Nat, k ≤ xs.length ∧ i = .int .i64 k ∧ (∀ i, i < k → xs.getD i 0 = ys.getD i 0) ∧ Below w.heap.size w wr) (fun i _ => xs.length - (intOf i).toNat)
  case atStart => exact ⟨0, Nat.zero_le _, rfl, fun i h => by omega, Below.refl _ _⟩
  case round =>
    obtain ⟨k, hk, rfl, hsame, hbel⟩ := hrel
    have HS := Lib.hid hsame
    clear hsame
    by_cases hlt : k < xs.length
    · have hy' : k < ys.length := by have := HL.out; omega
      have cx := (hbel.cell (p := ⟨b, o + k, none⟩) hb).trans (HX.out k hlt)
      have cy := (hbel.cell (p := ⟨c, p + k, none⟩) hc).trans (HY.out k hy')
      by_cases heq : xs[k] = ys[k]
      · have hne : (((xs[k] : Nat) : Int) == ((ys[k] : Nat) : Int)) = true := by rw [heq]; simp
        have HE := Lib.hid heq
        clear heq
        go_wp2
        go_quiet (fail)
        go_wp2
        go_roundw
        case rel =>
          refine ⟨k + 1, by omega, by go_num, fun i hi => ?_, belowN hbel _⟩
          by_cases e : i = k
          · subst e
            have := HE.out
            simpa [List.getD, hlt, hy'] using this
          · exact HS.out i (by omega)
        case measure => simp [intOf]; omega
      · have hne : (((xs[k] : Nat) : Int) == ((ys[k] : Nat) : Int)) = false := by simp; omega
        have HE := Lib.hid heq
        clear heq
        go_wp2
        go_quiet (fail)
        go_wp2
        go_ret
        refine ⟨ret_bool ?_, belowN hbel _⟩
        symm
        rw [decide_eq_false_iff_not]
        intro h
        have := HE.out
        simp [h] at this
    · go_wp2
      go_ret
      refine ⟨ret_bool ?_, hbel⟩
      symm
      rw [decide_eq_true_eq]
      apply List.ext_getElem HL.out.symm
      intro i h1 h2
      have := HS.out i (by omega)
      simpa [List.getD, h1, h2] using this

theorem words_cmp (xs ys : List Nat) (u v : Value) (w : World) (hu : Words32 w u xs) (hv : Words32 w v ys) (hn : xs.length ≤ 140737488351232) :
    Calls Try.prog 11 #[u, v] w fun e w' => e = .returned (.bool (decide (xs = ys))) ∧ Below w.heap.size w w' := by
  rcases hu.2 with ⟨rfl, a, ca, rfl⟩ | ⟨b, o, ca, rfl, hb, hx⟩ <;> rcases hv.2 with ⟨rfl, c, cc, rfl⟩ | ⟨c, p, cc, rfl, hc, hy⟩
  · exact (words_nil a c ca cc w).mono fun _ _ h => ⟨h.1.trans (ret_bool rfl), h.2⟩
  · cases ys with
    | nil => exact (words_nil a _ ca cc w).mono fun _ _ h => ⟨h.1.trans (ret_bool rfl), h.2⟩
    | cons y ys => exact (words_ne a _ 0 _ ca cc w (by simp)).mono fun _ _ h => ⟨h.1.trans (ret_bool (by simp)), h.2⟩
  · cases xs with
    | nil => exact (words_nil _ c ca cc w).mono fun _ _ h => ⟨h.1.trans (ret_bool rfl), h.2⟩
    | cons x xs => exact (words_ne _ c _ 0 ca cc w (by simp)).mono fun _ _ h => ⟨h.1.trans (ret_bool (by simp)), h.2⟩
  · by_cases hl : ys.length = xs.length
    · have := words_some xs ys b o c p ca cc w hn hl hx hy hb hc
      rwa [← hl] at this ⊢
    · exact (words_ne _ _ _ _ ca cc w (fun h => hl h.symm)).mono fun _ _ h => ⟨h.1.trans (ret_bool (by symm; rw [decide_eq_false_iff_not]; intro h; exact hl (by rw [h]))), h.2⟩

theorem word_sum (l : List UInt8) (j : Nat) : word l false j = byt l (4 * j) + byt l (4 * j + 1) * 256 + byt l (4 * j + 2) * 65536 + byt l (4 * j + 3) * 16777216 ∧
    word l true j = byt l (4 * j) * 16777216 + byt l (4 * j + 1) * 65536 + byt l (4 * j + 2) * 256 + byt l (4 * j + 3) := by
  have e : 4 * j + 4 - 4 * j = 4 := by omega
  unfold word wordPart
  rw [e]
  constructor <;> simp [term, shiftN]
theorem byt_text (ws : List Nat) (big : Bool) (j r : Nat) (hj : j < ws.length) (hr : r < 4) : byt (text ws big) (4 * j + r) = ws[j] / 2 ^ shiftN r big % 256 := by
  have h1 : 4 * j + r < 4 * ws.length := by omega
  have h2 : (4 * j + r) / 4 = j := by omega
  have h3 : 4 * j + r < (text ws big).length := by rw [text_length]; exact h1
  rw [byt_get h3]
  simp [text, shiftN_mod, h2, List.getD, hj]
theorem words_text (ws : List Nat) (big : Bool) (hl : ∀ x ∈ ws, x < 4294967296) : words (text ws big) big = ws := by
  apply List.ext_getElem (by rw [words_length, text_length]; omega)
  intro j h1 h2
  have hx : ws[j] < 4294967296 := hl _ (List.getElem_mem h2)
  have b0 := byt_text ws big j 0 h2 (by omega)
  have b1 := byt_text ws big j 1 h2 (by omega)
  have b2 := byt_text ws big j 2 h2 (by omega)
  have b3 := byt_text ws big j 3 h2 (by omega)
  rw [Nat.add_zero] at b0
  simp only [words, List.getElem_map, List.getElem_range]
  cases big
  · rw [(word_sum _ j).1, b0, b1, b2, b3]
    simp [shiftN]
    omega
  · rw [(word_sum _ j).2, b0, b1, b2, b3]
    simp [shiftN]
    omega
theorem text_words (l : List UInt8) (big : Bool) : text (words l big) big = l.take (l.length - l.length % 4) := by
  have hlen : l.length - l.length % 4 = 4 * (l.length / 4) := by omega
  rw [hlen]
  apply List.ext_getElem (by rw [text_length, words_length, List.length_take]; omega)
  intro i h1 h2
  have hi : i < 4 * (l.length / 4) := by rw [text_length, words_length] at h1; exact h1
  have hil : i < l.length := by omega
  have hj : i / 4 < l.length / 4 := by omega
  have hb := byt_get hil
  have h0 := byt_lt l (4 * (i / 4))
  have h1' := byt_lt l (4 * (i / 4) + 1)
  have h2' := byt_lt l (4 * (i / 4) + 2)
  have h3' := byt_lt l (4 * (i / 4) + 3)
  apply UInt8.toNat_inj.mp
  rw [List.getElem_take, ← hb]
  have e : (words l big).getD (i / 4) 0 = word l big (i / 4) := by simp [words, List.getD, hj]
  simp only [text, List.getElem_map, List.getElem_range, UInt8.toNat_ofNat']
  rw [e]
  obtain ⟨q, r, hk, hr⟩ : ∃ q r, i = 4 * q + r ∧ r < 4 := ⟨i / 4, i % 4, by omega, by omega⟩
  have hq : i / 4 = q := by omega
  rw [hq] at h0 h1' h2' h3' ⊢
  rw [hk, shiftN_mod]
  clear hk hb
  obtain rfl | rfl | rfl | rfl : r = 0 ∨ r = 1 ∨ r = 2 ∨ r = 3 := by omega
  all_goals
    cases big
    · rw [(word_sum l q).1]
      simp [shiftN]
      omega
    · rw [(word_sum l q).2]
      simp [shiftN]
      omega

theorem words_w32 (l : List UInt8) (big : Bool) (w : World) (hs : l.length ≤ 140737488351232) :
    Calls Try.prog 12 #[.string ⟨l.toArray⟩, .bool big] w fun e w' => ∃ v, e = .returned v ∧ Words32 w' v (words l big) ∧ Below w.heap.size w w' := by
  refine (words_any ⟨l.toArray⟩ big w hs).mono fun e w' h => ⟨_, h.1, Words32.of_row h.2.1 ?_ (words_lt _ _), h.2.2⟩
  rw [words_length]
  rfl

/-- What the walk is told of a slice of integers that came in. -/
def IsRow (k : IntKind) (w : World) (a : Option Addr) (len cap : Nat) (zs : List Int) : Prop :=
  (a = none ∧ len = 0 ∧ cap = 0 ∧ zs = []) ∨
  ∃ x, a = some x ∧ len ≤ cap ∧ cap ≤ maxLen ∧ zs.length = cap ∧ (∀ i, i < zs.length → w.cell? (x.add i) = some (.int k (zs.getD i 0))) ∧ ∀ n ∈ zs, (Lit.int k n).wf = true
theorem cell_lt {w : World} {a : Addr} {v : Value} (h : w.cell? a = some v) : a.block < w.heap.size := by
  unfold World.cell? at h
  split at h
  · rename_i c _ _ hc
    rcases Nat.lt_or_ge a.block w.heap.size with h' | h'
    · exact h'
    · simp [Array.getElem?_eq_none h'] at hc
  · simp at h
theorem IsRow.words {w : World} {a : Option Addr} {len cap : Nat} {zs : List Int} (h : IsRow .u32 w a len cap zs) : ∃ ws : List Nat, ws.length = len ∧ Words32 w (.slice a len cap) ws := by
  rcases h with ⟨rfl, rfl, rfl, rfl⟩ | ⟨x, rfl, hl, hm, hz, hc, hw⟩
  · exact ⟨[], rfl, ⟨fun _ hx => (by cases hx), .inl ⟨rfl, none, 0, rfl⟩⟩⟩
  · have hwf : ∀ n ∈ zs, 0 ≤ n ∧ n < 4294967296 := fun n hn => by
      have := hw n hn
      simp [Lit.wf, IntKind.min, IntKind.max, IntKind.signed, IntKind.bits] at this
      omega
    refine ⟨(zs.take len).map Int.toNat, by simp; omega, ⟨fun y hy => ?_, ?_⟩⟩
    · simp only [List.mem_map] at hy
      obtain ⟨n, hn, rfl⟩ := hy
      have := hwf n (List.mem_of_mem_take hn)
      omega
    · by_cases h0 : len = 0
      · subst h0
        exact .inl ⟨by simp, _, _, rfl⟩
      · right
        obtain ⟨b, off, rfl, hc'⟩ := ints_at hc (by omega)
        have hlen : ((zs.take len).map Int.toNat).length = len := by simp; omega
        refine ⟨b, off, cap, by rw [hlen], ?_, fun i hi => ?_⟩
        · exact cell_lt (hc' 0 (by omega))
        · rw [hlen] at hi
          rw [hc' i (by omega)]
          have hz' : i < zs.length := by omega
          have := hwf zs[i] (List.getElem_mem hz')
          simp [List.getD, hz']
          omega

end Go.Proofs.Ytfomlcdmeclnpaa.Lanes
