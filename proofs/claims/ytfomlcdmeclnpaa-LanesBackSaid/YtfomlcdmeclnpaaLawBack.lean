/-
  The statement LanesBack: for every list of words, every text and either end first the law answers true and leaves its arguments as they were. Condition: none.
-/
import Derived.Test.YtfomlcdmeclnpaaRows
import Derived.Test.YtfomlcdmeclnpaaLaneLive
import Derived.ProofKit
import Derived.OpenShut
import Derived.SizedLaws
import Derived.ShutString
import Derived.ChangeOld
import Derived.Below
namespace Go.Proofs.Ytfomlcdmeclnpaa.LawBack
open Go.ChangeShapes Go.WideShapes Go.ChangeAt Go.RowKit Mur Lanes
open Go.ChangeMaps (open_string shut_string)

set_option maxHeartbeats 800000 in
theorem words_ne (a c : Option Addr) (n m ca cc : Nat) (w : World) (h : n ≠ m) :
    Calls Try.prog 11 #[.slice a n ca, .slice c m cc] w fun e w' => e = .returned (.bool false) ∧ Below w.heap.size w w' := by
  have hne : ((n : Int) == (m : Int)) = false := by simp; omega
  go_enter Try.func11, Try.ntmps11
  go_wp2
  go_ret
  exact ⟨rfl, Below.refl _ _⟩
set_option maxHeartbeats 800000 in
theorem words_nil (a c : Option Addr) (ca cc : Nat) (w : World) :
    Calls Try.prog 11 #[.slice a 0 ca, .slice c 0 cc] w fun e w' => e = .returned (.bool true) ∧ Below w.heap.size w w' := by
  go_enter Try.func11, Try.ntmps11
  go_wp2
  go_loop [13] (fun i => i = .int .i64 0) (fun _ => 0)
  case atStart => rfl
  case round =>
    subst hrel
    go_wp2
    go_ret
    exact ⟨rfl, Below.refl _ _⟩
set_option maxHeartbeats 800000 in
theorem words_some (xs ys : List Nat) (b o c p ca cc : Nat) (w : World) (hn : xs.length ≤ 140737488351232) (hl : ys.length = xs.length)
    (hx : ∀ i (h : i < xs.length), w.cell? ⟨b, o + i, none⟩ = some (.int .u32 (xs[i] : Int))) (hy : ∀ i (h : i < ys.length), w.cell? ⟨c, p + i, none⟩ = some (.int .u32 (ys[i] : Int)))
    (hb : b < w.heap.size) (hc : c < w.heap.size) :
    Calls Try.prog 11 #[.slice (some ⟨b, o, none⟩) xs.length ca, .slice (some ⟨c, p, none⟩) xs.length cc] w fun e w' => e = .returned (.bool (decide (xs = ys))) ∧ Below w.heap.size w w' := by
  have HL := Lib.hid hl
  have HX := Lib.hid hx
  have HY := Lib.hid hy
  clear hl hx hy
  go_enter Try.func11, Try.ntmps11
  go_wp2
  go_loopw [13] (fun i wr => ∃ k : Nat, k ≤ xs.length ∧ i = .int .i64 k ∧ (∀ i, i < k → xs.getD i 0 = ys.getD i 0) ∧ Below w.heap.size w wr) (fun i _ => xs.length - (intOf i).toNat)
  case atStart => exact ⟨0, Nat.zero_le _, rfl, fun i h => by omega, Below.refl _ _⟩
  case round =>
    obtain ⟨k, hk, rfl, hsame, hbel⟩ := hrel
    have HS := Lib.hid hsame
    clear hsame
    by_cases hlt : k < xs.length
    · have hy' : k < ys.length := by have := HL.out; omega
      have cx := (hbel.cell (p := ⟨b, o + k, none⟩) hb).trans (HX.out k hlt)
      have cy := (hbel.cell (p := ⟨c, p + k, none⟩) hc).trans (HY.out k hy')
      by_cases heq : xs[k] = ys[k]
      · have hne : (((xs[k] : Nat) : Int) == ((ys[k] : Nat) : Int)) = true := by rw [heq]; simp
        have HE := Lib.hid heq
        clear heq
        go_wp2
        go_quiet (fail)
        go_wp2
        go_roundw
        case rel =>
          refine ⟨k + 1, by omega, by go_num, fun i hi => ?_, belowN hbel _⟩
          by_cases e : i = k
          · subst e
            have := HE.out
            simpa [List.getD, hlt, hy'] using this
          · exact HS.out i (by omega)
        case measure => simp [intOf]; omega
      · have hne : (((xs[k] : Nat) : Int) == ((ys[k] : Nat) : Int)) = false := by simp; omega
        have HE := Lib.hid heq
        clear heq
        go_wp2
        go_quiet (fail)
        go_wp2
        go_ret
        refine ⟨ret_bool ?_, belowN hbel _⟩
        symm
        rw [decide_eq_false_iff_not]
        intro h
        have := HE.out
        simp [h] at this
    · go_wp2
      go_ret
      refine ⟨ret_bool ?_, hbel⟩
      symm
      rw [decide_eq_true_eq]
      apply List.ext_getElem HL.out.symm
      intro i h1 h2
      have := HS.out i (by omega)
      simpa [List.getD, h1, h2] using this

theorem words_cmp (xs ys : List Nat) (u v : Value) (w : World) (hu : Words32 w u xs) (hv : Words32 w v ys) (hn : xs.length ≤ 140737488351232) :
    Calls Try.prog 11 #[u, v] w fun e w' => e = .returned (.bool (decide (xs = ys))) ∧ Below w.heap.size w w' := by
  rcases hu.2 with ⟨rfl, a, ca, rfl⟩ | ⟨b, o, ca, rfl, hb, hx⟩ <;> rcases hv.2 with ⟨rfl, c, cc, rfl⟩ | ⟨c, p, cc, rfl, hc, hy⟩
  · exact (words_nil a c ca cc w).mono fun _ _ h => ⟨h.1.trans (ret_bool rfl), h.2⟩
  · cases ys with
    | nil => exact (words_nil a _ ca cc w).mono fun _ _ h => ⟨h.1.trans (ret_bool rfl), h.2⟩
    | cons y ys => exact (words_ne a _ 0 _ ca cc w (by simp)).mono fun _ _ h => ⟨h.1.trans (ret_bool (by simp)), h.2⟩
  · cases xs with
    | nil => exact (words_nil _ c ca cc w).mono fun _ _ h => ⟨h.1.trans (ret_bool rfl), h.2⟩
    | cons x xs => exact (words_ne _ c _ 0 ca cc w (by simp)).mono fun _ _ h => ⟨h.1.trans (ret_bool (by simp)), h.2⟩
  · by_cases hl : ys.length = xs.length
    · have := words_some xs ys b o c p ca cc w hn hl hx hy hb hc
      rwa [← hl] at this ⊢
    · exact (words_ne _ _ _ _ ca cc w (fun h => hl h.symm)).mono fun _ _ h => ⟨h.1.trans (ret_bool (by symm; rw [decide_eq_false_iff_not]; intro h; exact hl (by rw [h]))), h.2⟩

theorem word_sum (l : List UInt8) (j : Nat) : word l false j = byt l (4 * j) + byt l (4 * j + 1) * 256 + byt l (4 * j + 2) * 65536 + byt l (4 * j + 3) * 16777216 ∧
    word l true j = byt l (4 * j) * 16777216 + byt l (4 * j + 1) * 65536 + byt l (4 * j + 2) * 256 + byt l (4 * j + 3) := by
  have e : 4 * j + 4 - 4 * j = 4 := by omega
  unfold word wordPart
  rw [e]
  constructor <;> simp [term, shiftN]
theorem byt_text (ws : List Nat) (big : Bool) (j r : Nat) (hj : j < ws.length) (hr : r < 4) : byt (text ws big) (4 * j + r) = ws[j] / 2 ^ shiftN r big % 256 := by
  have h1 : 4 * j + r < 4 * ws.length := by omega
  have h2 : (4 * j + r) / 4 = j := by omega
  have h3 : 4 * j + r < (text ws big).length := by rw [text_length]; exact h1
  rw [byt_get h3]
  simp [text, shiftN_mod, h2, List.getD, hj]
theorem words_text (ws : List Nat) (big : Bool) (hl : ∀ x ∈ ws, x < 4294967296) : words (text ws big) big = ws := by
  apply List.ext_getElem (by rw [words_length, text_length]; omega)
  intro j h1 h2
  have hx : ws[j] < 4294967296 := hl _ (List.getElem_mem h2)
  have b0 := byt_text ws big j 0 h2 (by omega)
  have b1 := byt_text ws big j 1 h2 (by omega)
  have b2 := byt_text ws big j 2 h2 (by omega)
  have b3 := byt_text ws big j 3 h2 (by omega)
  rw [Nat.add_zero] at b0
  simp only [words, List.getElem_map, List.getElem_range]
  cases big
  · rw [(word_sum _ j).1, b0, b1, b2, b3]
    simp [shiftN]
    omega
  · rw [(word_sum _ j).2, b0, b1, b2, b3]
    simp [shiftN]
    omega
theorem text_words (l : List UInt8) (big : Bool) : text (words l big) big = l.take (l.length - l.length % 4) := by
  have hlen : l.length - l.length % 4 = 4 * (l.length / 4) := by omega
  rw [hlen]
  apply List.ext_getElem (by rw [text_length, words_length, List.length_take]; omega)
  intro i h1 h2
  have hi : i < 4 * (l.length / 4) := by rw [text_length, words_length] at h1; exact h1
  have hil : i < l.length := by omega
  have hj : i / 4 < l.length / 4 := by omega
  have hb := byt_get hil
  have h0 := byt_lt l (4 * (i / 4))
  have h1' := byt_lt l (4 * (i / 4) + 1)
  have h2' := byt_lt l (4 * (i / 4) + 2)
  have h3' := byt_lt l (4 * (i / 4) + 3)
  apply UInt8.toNat_inj.mp
  rw [List.getElem_take, ← hb]
  have e : (words l big).getD (i / 4) 0 = word l big (i / 4) := by simp [words, List.getD, hj]
  simp only [text, List.getElem_map, List.getElem_range, UInt8.toNat_ofNat']
  rw [e]
  obtain ⟨q, r, hk, hr⟩ : ∃ q r, i = 4 * q + r ∧ r < 4 := ⟨i / 4, i % 4, by omega, by omega⟩
  have hq : i / 4 = q := by omega
  rw [hq] at h0 h1' h2' h3' ⊢
  rw [hk, shiftN_mod]
  clear hk hb
  obtain rfl | rfl | rfl | rfl : r = 0 ∨ r = 1 ∨ r = 2 ∨ r = 3 := by omega
  all_goals
    cases big
    · rw [(word_sum l q).1]
      simp [shiftN]
      omega
    · rw [(word_sum l q).2]
      simp [shiftN]
      omega

theorem words_w32 (l : List UInt8) (big : Bool) (w : World) (hs : l.length ≤ 140737488351232) :
    Calls Try.prog 12 #[.string ⟨l.toArray⟩, .bool big] w fun e w' => ∃ v, e = .returned v ∧ Words32 w' v (words l big) ∧ Below w.heap.size w w' := by
  refine (words_any ⟨l.toArray⟩ big w hs).mono fun e w' h => ⟨_, h.1, Words32.of_row h.2.1 ?_ (words_lt _ _), h.2.2⟩
  rw [words_length]
  rfl

set_option maxHeartbeats 400000 in
theorem law_great (v : Value) (a : Option Addr) (n cap : Nat) (s : ByteArray) (big : Bool) (w : World) (hv : v = .slice a n cap) (hg : 300 < n ∨ 2000 < s.size) :
    Calls Try.prog 4 #[v, .string s, .bool big] w fun e w' => e = .returned (.bool true) ∧ Below w.heap.size w w' := by
  subst hv
  by_cases h : 300 < n
  · go_enter Try.func4, Try.ntmps4
    go_wp2_with fail
    refine (live_true _).mono ?_
    rintro e w1 ⟨rfl, hb1⟩
    go_wp2
    go_ret
    exact ⟨rfl, hb1⟩
  · have h2 : 2000 < s.size := by omega
    have hd : decide (300 < (n : Int)) = false := by simp; omega
    have hd2 : decide (2000 < (s.size : Int)) = true := by simp; omega
    go_enter Try.func4, Try.ntmps4
    go_wp2_with fail
    refine (live_true _).mono ?_
    rintro e w1 ⟨rfl, hb1⟩
    go_wp2
    go_ret
    exact ⟨rfl, hb1⟩

set_option maxHeartbeats 1600000 in
theorem law_small (ws : List Nat) (v : Value) (a : Option Addr) (cap : Nat) (s : ByteArray) (big : Bool) (w : World) (hv : v = .slice a ws.length cap) (hW : Words32 w v ws) (h1 : ws.length ≤ 300) (h2 : s.size ≤ 2000) :
    Calls Try.prog 4 #[v, .string s, .bool big] w fun e w' => e = .returned (.bool true) ∧ Below w.heap.size w w' := by
  have hd : decide (300 < (ws.length : Int)) = false := by simp; omega
  have hd2 : decide (2000 < (s.size : Int)) = false := by simp; omega
  subst hv
  go_enter Try.func4, Try.ntmps4
  go_wp2_with fail
  clear hd hd2
  refine (text_any ws _ _ _ (by omega) hW).mono ?_
  rintro e w1 ⟨rfl, hb1⟩
  go_wp2_with fail
  refine (words_w32 _ _ _ (by rw [text_length]; omega)).mono ?_
  rintro e w2 ⟨v2, rfl, hW2, hb2⟩
  rw [words_text ws big hW.1] at hW2
  go_wp2_with fail
  refine (words_cmp ws ws _ _ _ hW2 (hW.below (hb1.trans (hb2.mono hb1.size)) rfl) (by omega)).mono ?_
  rintro e w3 ⟨rfl, hb3⟩
  have hdt : decide (ws = ws) = true := by simp
  rw [hdt]
  go_wp2_with fail
  refine (words_w32 s.data.toList _ _ (by show s.size ≤ _; omega)).mono ?_
  rintro e w4 ⟨v4, rfl, hW4, hb4⟩
  go_wp2_with fail
  refine (text_any _ _ _ _ (by rw [words_length]; have : s.data.toList.length = s.size := rfl; omega) hW4).mono ?_
  rintro e w5 ⟨rfl, hb5⟩
  rw [text_words]
  have hex : (List.take (s.size - s.size % 4) s.data.toList == (s.extract 0 (s.size - s.size % 4)).toList) = true := by
    rw [beq_iff_eq, ByteArray.toList_eq, ByteArray.data_extract, Array.toList_extract]
    simp [List.extract]
  go_wp2_with fail
  refine (live_true _).mono ?_
  rintro e w6 ⟨rfl, hb6⟩
  go_wp2
  go_ret
  have s2 := hb2.size
  have s3 := hb3.size
  have s4 := hb4.size
  have s5 := hb5.size
  have s1 := hb1.size
  exact ⟨rfl, hb1.trans ((hb2.mono (by omega)).trans ((hb3.mono (by omega)).trans ((hb4.mono (by omega)).trans ((hb5.mono (by omega)).trans (hb6.mono (by omega))))))⟩

/-- What the walk is told of a slice of integers that came in. -/
def IsRow (k : IntKind) (w : World) (a : Option Addr) (len cap : Nat) (zs : List Int) : Prop :=
  (a = none ∧ len = 0 ∧ cap = 0 ∧ zs = []) ∨
  ∃ x, a = some x ∧ len ≤ cap ∧ cap ≤ maxLen ∧ zs.length = cap ∧ (∀ i, i < zs.length → w.cell? (x.add i) = some (.int k (zs.getD i 0))) ∧ ∀ n ∈ zs, (Lit.int k n).wf = true
theorem cell_lt {w : World} {a : Addr} {v : Value} (h : w.cell? a = some v) : a.block < w.heap.size := by
  unfold World.cell? at h
  split at h
  · rename_i c _ _ hc
    rcases Nat.lt_or_ge a.block w.heap.size with h' | h'
    · exact h'
    · simp [Array.getElem?_eq_none h'] at hc
  · simp at h
theorem IsRow.words {w : World} {a : Option Addr} {len cap : Nat} {zs : List Int} (h : IsRow .u32 w a len cap zs) : ∃ ws : List Nat, ws.length = len ∧ Words32 w (.slice a len cap) ws := by
  rcases h with ⟨rfl, rfl, rfl, rfl⟩ | ⟨x, rfl, hl, hm, hz, hc, hw⟩
  · exact ⟨[], rfl, ⟨fun _ hx => (by cases hx), .inl ⟨rfl, none, 0, rfl⟩⟩⟩
  · have hwf : ∀ n ∈ zs, 0 ≤ n ∧ n < 4294967296 := fun n hn => by
      have := hw n hn
      simp [Lit.wf, IntKind.min, IntKind.max, IntKind.signed, IntKind.bits] at this
      omega
    refine ⟨(zs.take len).map Int.toNat, by simp; omega, ⟨fun y hy => ?_, ?_⟩⟩
    · simp only [List.mem_map] at hy
      obtain ⟨n, hn, rfl⟩ := hy
      have := hwf n (List.mem_of_mem_take hn)
      omega
    · by_cases h0 : len = 0
      · subst h0
        exact .inl ⟨by simp, _, _, rfl⟩
      · right
        obtain ⟨b, off, rfl, hc'⟩ := ints_at hc (by omega)
        have hlen : ((zs.take len).map Int.toNat).length = len := by simp; omega
        refine ⟨b, off, cap, by rw [hlen], ?_, fun i hi => ?_⟩
        · exact cell_lt (hc' 0 (by omega))
        · rw [hlen] at hi
          rw [hc' i (by omega)]
          have hz' : i < zs.length := by omega
          have := hwf zs[i] (List.getElem_mem hz')
          simp [List.getD, hz']
          omega

theorem walk (a : Option Addr) (len cap : Nat) (zs : List Int) (s : ByteArray) (big : Bool) (w : World) (h : IsRow .u32 w a len cap zs) :
    Calls Try.prog 4 #[.slice a len cap, .string s, .bool big] w fun e w' => e = .returned (.bool true) ∧ Below w.heap.size w w' := by
  obtain ⟨ws, hl, hW⟩ := h.words
  by_cases hg : 300 < len ∨ 2000 < s.size
  · exact law_great _ a len cap s big w rfl hg
  · subst hl
    exact law_small ws _ a cap s big w rfl hW (by omega) (by omega)

theorem own : ownKnob Try.prog.godebug = none := by kernel_rfl
theorem laidOut : laidOutB Try.prog = true := by kernel_rfl

set_option maxRecDepth 100000 in
theorem lifted (os : Os) (started : os.Started) (H : Type) (enc : TypeId × Value → H) :
    ReturnsInHanded {} Try.checked os 4 .any (Rows.lanesBackSpec.pre6 enc Try.prog Try.f4 Rows.lanesBackRow.domain false) (Rows.lanesBackSpec.post enc Try.prog Try.f4 false true false false) := by
  refine returnsInHanded_of_change (C := Try.checked) own started (by kernel_rfl) Try.func4
    (ChangeSpec.witness6 (enc := enc) (C := Try.checked) false ⟨#[], #[.slice none 0 0, .string ByteArray.empty, .bool false], []⟩ 8 (by kernel_rfl) (by kernel_rfl) (by kernel_rfl) (by kernel_rfl)) ?_
  intro W base args ds gs before hval0 hW hcnd _
  have hval : ∀ (j : Nat) t v, Try.f4.params[j]? = some t → args[j]? = some v → Value.okWide Try.prog W .any base t v := hval0
  have hW' := hW
  obtain ⟨p, q, hA0, hV, rfl, hfz, hnd⟩ := hW
  have hA : DataW.TrodAll enc Try.prog W 0 (fun _ => true) true Try.f4.params.toList args.toList ds p := hA0
  rw [Try.params4] at hA hval
  obtain ⟨v0, vs0, d0, ds0, p0, q0, hargs, rfl, rfl, h0, r0⟩ := trodAll_cons hA
  obtain ⟨v1, vs1, d1, ds1, p1, q1, rfl, rfl, rfl, h1, r1⟩ := trodAll_cons r0
  obtain ⟨v2, vs2, d2, ds2, p2, q2, rfl, rfl, rfl, h2, r2⟩ := trodAll_cons r1
  obtain ⟨rfl, rfl, rfl⟩ := trodAll_nil r2
  obtain rfl : args = #[v0, v1, v2] := by cases args; simp_all
  obtain ⟨rfl, rfl⟩ := trodVars_none hV
  obtain ⟨a0, len0, cap0, rfl⟩ := okWide_slice Try.underlying23 (hval 0 23 v0 rfl rfl)
  have k0 := h0
  have lt0 : ∀ x ∈ p0, x.block < W.heap.size := by obtain ⟨m, hm⟩ := k0; exact DataW.trod_lt m _ _ _ hm
  obtain ⟨z0, w0⟩ : ∃ zs, IsRow .u32 W a0 len0 cap0 zs := by
    obtain ⟨fuel, hf⟩ := h0
    rcases open_ints Try.underlying23 Try.underlying41 (by kernel_rfl) hf with ⟨hcs, _⟩ | ⟨x, l, c, zs, hcs, _, hl, hm, hz, _, hcell, hwz⟩
    · simp [Value.cells] at hcs
      obtain ⟨rfl, rfl, rfl⟩ := hcs
      exact ⟨[], .inl ⟨rfl, rfl, rfl, rfl⟩⟩
    · simp [Value.cells] at hcs
      obtain ⟨rfl, rfl, rfl⟩ := hcs
      exact ⟨zs, .inr ⟨_, rfl, hl, hm, by simpa using hz, hcell, hwz⟩⟩
  obtain ⟨a1, rfl, rfl, rfl, w1⟩ := open_string Try.underlying9 (hval 1 9 v1 rfl rfl) h1
  obtain ⟨a2, rfl, rfl, rfl⟩ := open_bool Try.underlying4 (hval 2 4 v2 rfl rfl) h2
  clear hA0 hval0
  refine (walk a0 len0 cap0 z0 a1 a2 W w0).mono fun e W' ⟨he, bel⟩ => ?_
  subst he
  exact ⟨_, rfl, _, _, _, [], _, [], hW', trodAll_mk1 (shut_bool Try.underlying4 _), (trodAll_cons_mk (Below.trod laidOut (by kernel_rfl) (of_decide_eq_true (by kernel_rfl)) k0 bel lt0) (trodAll_cons_mk (shut_string Try.underlying9 w1) (trodAll_cons_mk (shut_bool Try.underlying4 _) trodAll_mk0))), rfl, bel.frame _, fun h => by cases h⟩

theorem over : Rows.lanesBackRow.holds Try.pinned (OpenSpec.ofChange Rows.lanesBackSpec) :=
  OpenClaim.holds_of_wide 4 Try.f4 rfl rfl rfl rfl rfl rfl rfl ⟨rfl, rfl, rfl, rfl, rfl⟩ rfl rfl rfl rfl rfl (by kernel_rfl) Try.func4 (by kernel_rfl)
    (of_decide_eq_true (by kernel_rfl)) (by unfold Func.isWrapper; first | (rw [if_pos (by decide +kernel)]; kernel_rfl) | (rw [if_neg (by decide +kernel)]; exact ⟨rfl, rfl⟩))
    (fun os started H enc _ => lifted os started H enc)

theorem proved : Rows.LanesBackSaid := over
end Go.Proofs.Ytfomlcdmeclnpaa.LawBack
