/-
  slices.Reverse at runes, walked, and Back of package phrase: what is answered is what the plain mathematics of the text PhrB says, and all memory that was there stays as it was. Conditions: that lengths fit.
-/
import Derived.Test.YthlhhmhldpmpiaaDoorPhrF
import Derived.Sort.WalkB12
import Derived.Lib.SlicesMore
import Derived.Laws.IdiomStrings
import Derived.Laws.Cover4
namespace Go.Proofs.YthlhhmhldpmpiaaDoor.Phr
open Go.RowKit Mur Go.Sort Go.Lib
set_option maxRecDepth 100000

abbrev encR : Nat → Value := fun n => Value.int .i32 (n : Int)

set_option maxHeartbeats 1600000 in
theorem reverse_arr (blk off cap : Nat) (d : Array Nat) (w : World) (hH : Holds encR w blk off d) (hsz : d.size ≤ 9223372036854775807) :
    Calls Tryd.prog 48 #[.slice (some ⟨blk, off, none⟩) d.size cap] w fun e w' => e = .returned (.tuple #[]) ∧ ∃ n, w' = putRow encR (Sort.ahead w n) blk off d.reverse := by
  go_enter Tryd.func48, Tryd.ntmps48
  go_wp2
  go_loopg [2, 3] d.size (fun k s2 s3 wr => ∃ (i jn : Nat) (jz : Int) (dk : Array Nat) (n : Nat), s2 = .int .i64 i ∧ s3 = .int .i64 jz ∧ ((i : Int) < jz → jz = jn ∧ jn < d.size) ∧ (¬ (i : Int) < jz → ¬ i < jn) ∧ jn - i ≤ k ∧
    dk.size = d.size ∧ wr = putRow encR (Sort.ahead w n) blk off dk ∧ reverseLoop i jn dk = reverseLoop 0 (d.size - 1) d)
  case atStart => exact ⟨0, d.size - 1, (d.size : Int) - 1, d, 0, rfl, rfl, fun h => ⟨by omega, by omega⟩, fun h => by omega, by omega, rfl, (putRow_self encR w blk off d hH).symm, rfl⟩
  case round =>
    obtain ⟨i, jn, jz, dk, n, rfl, rfl, h1, h2, hk, hds, hwr, heq⟩ := hrel
    by_cases hlt : (i : Int) < jz
    · obtain ⟨rfl, hjn⟩ := h1 hlt
      have hij : i < jn := by omega
      have hHk : Holds encR wr blk off dk := by rw [hwr]; exact holds_putRow encR _ blk off d dk (holds_ahead encR w n blk off d hH) hds
      obtain ⟨ci, fi⟩ := hHk i (by omega)
      obtain ⟨cj, fj⟩ := hHk jn (by omega)
      have A : Aside (wr = putRow encR (Sort.ahead w n) blk off dk) := hwr
      clear hwr hHk hH h1 h2
      go_wp2_with fail
      go_region
      go_wp2
      go_roundg (jn - 1 - (i + 1))
      case measure => omega
      case rel =>
        rw [reverseLoop, if_pos hij] at heq
        exact ⟨i + 1, jn - 1, (jn : Int) - 1, swp dk i jn, n + 1, by simp, rfl, fun h => ⟨by omega, by omega⟩, fun h => by omega, Nat.le_refl _, by rw [size_swp]; exact hds,
          swap_world encR (by omega) (by omega) A.out (by first | rfl | simp [encR, getElem!_pos, show jn < dk.size by omega]) (by first | rfl | simp [encR, getElem!_pos, show i < dk.size by omega]), heq⟩
    · have hnot := h2 hlt
      go_wp2
      go_end0
      refine ⟨rfl, n, ?_⟩
      rw [reverseLoop, if_neg hnot] at heq
      rw [← Lib.reverseLoop_reverse, ← heq]

/-- Runes as cells, and what Go makes of them. -/
theorem runes_cells {s : ByteArray} {l : List Nat} (h : runes s.data.toList = some l) : Conv.runesFrom s s.size 0 #[] = (l.map encR).toArray := by
  rw [runesFrom_decs]
  rw [runes_all] at h
  split at h
  · cases h
    apply Array.ext'
    simp
  · cases h
theorem bytes_text (l : List Nat) (h : ∀ c ∈ l, may c = true) (acc : ByteArray) : (l.map fun n : Nat => (n : Int)).foldl (fun s n => s ++ Utf8.encode n) acc = acc ++ tx (text l) := by
  induction l generalizing acc with
  | nil =>
    show acc = acc ++ tx []
    apply ByteArray.ext
    simp
  | cons c l ih =>
    rw [List.map_cons, List.foldl_cons, ih (fun d hd => h d (List.mem_cons_of_mem _ hd)), encode_enc c (may_lt (h c List.mem_cons_self)).2.1, text_cons, ← tx_append]
    show acc ++ tx (enc c) ++ tx (text l) = acc ++ (tx (enc c) ++ tx (text l))
    apply ByteArray.ext
    simp
theorem below_putRow {B : Nat} {a w : World} (h : Below B a w) (n blk off : Nat) (d : Array Nat) (hB : B ≤ blk) : Below B a (putRow encR (Sort.ahead w n) blk off d) :=
  h.trans ⟨rfl, rfl, rfl, by rw [size_putRow]; exact Nat.le_refl _, fun i hi => by
    show (w.heap.modify blk _)[i]? = w.heap[i]?
    rw [Array.getElem?_modify, if_neg (by omega)]⟩

set_option maxHeartbeats 1600000 in
theorem back_any (s : ByteArray) (X : ByteArray) (w : World) (hX : X = tx (backB s.data.toList)) (hs : s.size ≤ 70368744177664) :
    Calls Tryd.prog 18 #[.string s] w fun e w' => e = .returned (.string X) ∧ Below w.heap.size w w' := by
  obtain ⟨S, hS⟩ : ∃ S, S = tx (sd s.data.toList) := ⟨_, rfl⟩
  obtain ⟨l, hl⟩ : ∃ l, l = rs s.data.toList := ⟨_, rfl⟩
  have R1 := Lib.hid (fun u => said_any s S u hS)
  have hrs : runes S.data.toList = some l := by rw [hS, hl]; exact sd_runes _
  have hll : l.length ≤ 70368744177664 := by
    have := rs_length s.data.toList
    rw [hl]
    exact Nat.le_trans this hs
  have hlm : ∀ c ∈ l, may c = true := by rw [hl]; exact rs_may _
  have hXl : X = tx (text l.reverse) := by rw [hX, hl]; rfl
  obtain ⟨n, hn⟩ : ∃ n, n = l.toArray.size := ⟨_, rfl⟩
  have hnl : n = l.length := by rw [hn]; simp
  obtain ⟨CAP, row, hcv, hrow⟩ : ∃ (CAP : World → Nat) (row : World → Array Value), (∀ u : World, (convert 9 37 (.string S)).run Tryd.prog u = .ok (.slice (some ⟨u.heap.size, 0, none⟩) n (CAP u)) (u.drew.alloc (.cells (row u) 21))) ∧ ∀ u (i : Nat) (x : Nat), l[i]? = some x → (row u)[i]? = some (encR x) := by
    have hsz : (Conv.runesFrom S S.size 0 #[]).size = n := by rw [runes_cells hrs, hnl]; simp
    refine ⟨_, _, fun u => by
      have := run_runes_of_string (P := Tryd.prog) u 9 37 21 S Tryd.underlying9 Tryd.underlying37 Tryd.underlying21 (by rw [hsz, hnl]; exact hll)
      rw [hsz] at this
      exact this, fun u i x hx => ?_⟩
    rw [runes_cells hrs, Array.getElem?_append_left (by have := (List.getElem?_eq_some_iff.1 hx).1; simp; exact this)]
    simp [hx]
  have HROW := Lib.hid hrow
  have HXL := Lib.hid hXl
  have HLM := Lib.hid hlm
  have HN := Lib.hid hn
  have HNL := Lib.hid hnl
  clear hS hl hX hrs hrow hXl hlm hn hnl
  go_enter Tryd.func18, Tryd.ntmps18
  go_wp2_with fail
  refine (R1.out _).mono ?_
  rintro e w1 ⟨rfl, hb1⟩
  have HW1 := Lib.hid hb1
  clear hb1
  go_wp2_with fail
  have hH : Holds encR (w1.alloc (.cells (row w1) 21)).drew w1.heap.size 0 l.toArray := fun j hj => by
    have hj2 : j < l.length := by simpa using hj
    have h1 := HROW.out w1 j l[j] (List.getElem?_eq_getElem hj2)
    refine ⟨?_, by rw [Nat.zero_add]; exact World.frozen?_alloc_new w1 _ _ j⟩
    rw [Nat.zero_add, show (w1.alloc (.cells (row w1) 21)).drew.cell? ⟨w1.heap.size, j, none⟩ = (w1.alloc (.cells (row w1) 21)).cell? ⟨w1.heap.size, j, none⟩ from rfl, World.cell?_alloc_new, h1]
    simp [getElem!_pos, hj2]
  have HH := Lib.hid hH
  have HW2 := Lib.hid (HW1.out.alloc HW1.out.size (.cells (row w1) 21)).drew
  have R2 := Lib.hid (fun c => reverse_arr w1.heap.size 0 c l.toArray _ HH.out (by rw [← HN.out, HNL.out]; omega))
  have hbb := HW1.out.size
  rw [← HN.out] at R2
  clear hcv hH HROW
  generalize (w1.alloc (.cells (row w1) 21)).drew = w2 at *
  generalize CAP w1 = cp at *
  generalize w1.heap.size = b at *
  refine (R2.out _).mono ?_
  rintro e w3 ⟨rfl, q, hw3⟩
  have HH3 := Lib.hid (show Holds encR w3 b 0 l.toArray.reverse from by rw [hw3]; exact holds_putRow encR _ b 0 l.toArray _ (holds_ahead encR w2 q b 0 _ HH.out) (by simp))
  have HW3 := Lib.hid (show Below w.heap.size w w3 from by rw [hw3]; exact below_putRow HW2.out q b 0 _ hbb)
  clear hw3 R2 HH HW2
  have hback : (convert 37 9 (.slice (some ⟨b, 0, none⟩) n cp)).run Tryd.prog w3 = .ok (.string X) w3 := by
    have := run_convert_runes (P := Tryd.prog) w3 37 9 21 ⟨b, 0, none⟩ n cp (l.reverse.map fun n : Nat => (n : Int)) (by rw [HNL.out]; simp) Tryd.underlying37 Tryd.underlying21 Tryd.underlying9 (fun j hj => by
      have hj2 : j < l.reverse.length := by simpa using hj
      have h1 := (HH3.out j (by simpa using hj2)).1
      rw [Nat.zero_add] at h1
      rw [show (⟨b, 0, none⟩ : Addr).add j = ⟨b, j, none⟩ by unfold Addr.add; split <;> simp_all, h1]
      have e1 : l.toArray.reverse[j]! = l.reverse[j] := by
        rw [getElem!_pos _ j (by simpa using hj2)]
        simp only [Array.getElem_reverse, List.getElem_reverse, List.getElem_toArray, List.size_toArray]
      rw [e1, List.getD_eq_getElem?_getD, List.getElem?_map, List.getElem?_eq_getElem hj2]
      rfl)
    rw [this, List.take_of_length_le (by rw [HNL.out]; simp), runesBytes, bytes_text _ (rev_may HLM.out), HXL.out]
    show Result.ok (Value.string (ByteArray.empty ++ tx (text l.reverse))) w3 = Result.ok (Value.string (tx (text l.reverse))) w3
    rw [ByteArray.empty_append]
  clear HH3 HLM HXL HN HNL hbb
  go_wp2
  go_ret
  exact ⟨rfl, HW3.out⟩
end Go.Proofs.YthlhhmhldpmpiaaDoor.Phr
