/-
  The document's own answer for the cells that bytes are (Read) of layer 15 is what the plain mathematics of the text Tap says; all memory that was there is left as it was. Conditions: a text has at most 10^9 bytes.
-/
import Derived.Test.YtpamdpfgcbadhaaDoorRTpD
namespace Go.Proofs.YtpamdpfgcbadhaaDoor.RTap
open Go.RowKit Mur Prt Lanes Tap Cel
set_option maxRecDepth 100000
set_option linter.unusedSimpArgs false

/-- What a cut answers. -/
def cutA (r : Option (List UInt8 × List UInt8)) : ByteArray := match r with
  | some x => tx x.1
  | none => ⟨#[]⟩
def cutB (r : Option (List UInt8 × List UInt8)) : ByteArray := match r with
  | some x => tx x.2
  | none => ⟨#[]⟩
theorem or_byte (x y : UInt8) : bits .or .i64 ((x.toNat : Int) * 256) (y.toNat : Int) = ((x.toNat * 256 + y.toNat : Nat) : Int) := by
  have h1 := x.toNat_lt
  have h2 := y.toNat_lt
  have := or_i64_nat (x.toNat * 256) y.toNat (by omega) (by omega)
  rw [show ((x.toNat * 256 : Nat) : Int) = (x.toNat : Int) * 256 from by omega] at this
  rw [this]
  congr 1
  rw [show x.toNat * 256 = x.toNat <<< 8 from by rw [Nat.shiftLeft_eq], ← Nat.shiftLeft_add_eq_or_of_lt (by omega : y.toNat < 2 ^ 8), Nat.shiftLeft_eq]
theorem piece_mid (s : ByteArray) (a b : Nat) : s.extract a b = tx ((s.data.toList.drop a).take (b - a)) := by
  apply ByteArray.ext
  rw [ByteArray.data_extract]
  apply Array.ext'
  simp [List.take_drop, Nat.sub_add_cancel]

set_option maxHeartbeats 1600000 in
theorem cut_any (s A R : ByteArray) (B : Bool) (w : World) (hA : A = cutA (cutT s.data.toList)) (hR : R = cutB (cutT s.data.toList)) (hB : B = (cutT s.data.toList).isSome) (hs : s.size ≤ 1000000000) :
    Calls Tryd.prog 44 #[.string s] w fun e w' => e = .returned (.tuple #[.string A, .string R, .bool B]) ∧ w'.heap = w.heap ∧ Below w.heap.size w w' := by
  have hsl : s.data.toList.length = s.size := rfl
  by_cases h2 : s.size < 2
  · have hc : cutT s.data.toList = none := by rw [cutT, if_pos (by rw [hsl]; exact h2)]
    rw [hc] at hA hR hB
    obtain rfl : A = ⟨#[]⟩ := hA
    obtain rfl : R = ⟨#[]⟩ := hR
    obtain rfl : B = false := hB
    have d1 : decide ((s.size : Int) < 2) = true := decide_eq_true (by omega)
    have d1b : decide (s.size < 2) = true := decide_eq_true h2
    clear hc hsl h2
    go_enter Tryd.func44, Tryd.ntmps44
    go_wp2
    go_ret3
    exact ⟨rfl, rfl, Below.refl _ _⟩
  have d1 : decide ((s.size : Int) < 2) = false := decide_eq_false (by omega)
  have d1b : decide (s.size < 2) = false := decide_eq_false h2
  obtain ⟨x, hx⟩ : ∃ x, s.data.toList[0]? = some x := ⟨_, List.getElem?_eq_getElem (by omega)⟩
  obtain ⟨y, hy⟩ : ∃ y, s.data.toList[1]? = some y := ⟨_, List.getElem?_eq_getElem (by omega)⟩
  have e0 : s[0] = x := (List.getElem?_eq_some_iff.1 hx).2
  have e1 : s[1] = y := (List.getElem?_eq_some_iff.1 hy).2
  have i0 : ∀ u, (Instr.index 9 (.string s) (.int .i64 0)).run Tryd.prog u = .ok (.int .u8 (x.toNat : Int)) u := fun u => by
    rw [run_index_string (P := Tryd.prog) u 9 s .i64 0 Tryd.underlying9, dif_pos ⟨by omega, by omega⟩]
    simp only [Int.toNat_zero, e0]
  have i1 : ∀ u, (Instr.index 9 (.string s) (.int .i64 1)).run Tryd.prog u = .ok (.int .u8 (y.toNat : Int)) u := fun u => by
    rw [run_index_string (P := Tryd.prog) u 9 s .i64 1 Tryd.underlying9, dif_pos ⟨by omega, by omega⟩]
    simp only [Int.toNat_one, e1]
  obtain ⟨v, hv⟩ : ∃ v, v = x.toNat * 256 + y.toNat := ⟨_, rfl⟩
  have hval : val (s.data.toList.take 2) = v := by
    have h3 : s.data.toList.take 2 = [x, y] := by
      match hl : s.data.toList, hx, hy with
      | a :: b :: r, hx, hy => cases hx; cases hy; rfl
      | [a], hx, hy => cases hy
      | [], hx, hy => cases hx
    rw [h3, hv]
    simp [val]
  have hor := or_byte x y
  rw [← hv] at hor
  have hp : (2 : Int) ^ 8 = 256 := by decide
  have hxl := x.toNat_lt
  have hyl := y.toNat_lt
  clear e0 e1 hx hy
  by_cases h3 : s.size - 2 < v
  · have hc : cutT s.data.toList = none := by rw [cutT, if_neg (by rw [hsl]; exact h2), hval, if_pos (by rw [hsl]; exact h3)]
    rw [hc] at hA hR hB
    obtain rfl : A = ⟨#[]⟩ := hA
    obtain rfl : R = ⟨#[]⟩ := hR
    obtain rfl : B = false := hB
    have d2 : decide ((s.size : Int) - 2 < (v : Int)) = true := decide_eq_true (by omega)
    clear hc hsl hval hv
    go_enter Tryd.func44, Tryd.ntmps44
    go_wp2
    go_quiet (fail)
    go_wp2
    go_ret3
    exact ⟨rfl, rfl, belowN (Below.refl _ _) nq⟩
  · have hc : cutT s.data.toList = some ((s.data.toList.drop 2).take v, (s.data.toList.drop 2).drop v) := by rw [cutT, if_neg (by rw [hsl]; exact h2), hval, if_neg (by rw [hsl]; exact h3)]
    rw [hc] at hA hR hB
    obtain rfl : B = true := hB
    have hA2 : s.extract 2 (2 + v) = A := by
      rw [hA, piece_mid, show 2 + v - 2 = v by omega]
      rfl
    have hR2 : s.extract (2 + v) s.size = R := by
      rw [hR, piece_mid]
      show tx ((s.data.toList.drop (2 + v)).take (s.size - (2 + v))) = tx ((s.data.toList.drop 2).drop v)
      rw [List.drop_drop, List.take_of_length_le (by rw [List.length_drop, hsl]; exact Nat.le_refl _)]
    have hsA : ∀ u, (Instr.slice 9 (.string s) (some (.int .i64 2)) (some (.int .i64 (2 + (v : Int)))) none).run Tryd.prog u = .ok (.string A) u := fun u => by
      have := run_slice_string (P := Tryd.prog) (w := u) 9 s .i64 .i64 2 (2 + (v : Int)) Tryd.underlying9 (by omega) (by omega) (by omega)
      rw [this, show (2 : Int).toNat = 2 from rfl, show (2 + (v : Int)).toNat = 2 + v by omega, hA2]
    have hsR : ∀ u, (Instr.slice 9 (.string s) (some (.int .i64 (2 + (v : Int)))) none none).run Tryd.prog u = .ok (.string R) u := fun u => by
      have := run_slice_string_l (P := Tryd.prog) u 9 s Tryd.underlying9 .i64 (2 + (v : Int)) (by omega) (by omega)
      rw [this, show (2 + (v : Int)).toNat = 2 + v by omega, hR2]
    have d2 : decide ((s.size : Int) - 2 < (v : Int)) = false := decide_eq_false (by omega)
    clear hc hsl hval hv hA hR hA2 hR2
    go_enter Tryd.func44, Tryd.ntmps44
    go_wp2
    go_quiet (fail)
    go_wp2
    go_quiet (fail)
    go_wp2
    go_ret3
    exact ⟨rfl, rfl, belowN (belowN (Below.refl _ _) _) _⟩

/-- What is told of an outcome in cells. -/
def outL (r : Except Nat (List C)) : List C := match r with
  | .ok l => l
  | .error _ => []
def lenOf (v : Value) : Nat := match v with
  | .string b => b.size
  | _ => 0
theorem readG_none (f : Nat) (acc : List C) (t : List UInt8) (ht : t ≠ []) (h : cutT t = none) : readG (f + 1) acc t = .error 2 := by rw [readG, if_neg ht, h]
theorem readG_half (f : Nat) (acc : List C) (t a r : List UInt8) (ht : t ≠ []) (h : cutT t = some (a, r)) (k : cutT r = none) : readG (f + 1) acc t = .error 2 := by
  rw [readG, if_neg ht, h]
  dsimp only
  rw [k]
theorem readG_bad (f : Nat) (acc : List C) (t a r b q : List UInt8) (ht : t ≠ []) (h : cutT t = some (a, r)) (k : cutT r = some (b, q)) (h4 : acc.length = 1000 ∨ okC (a, b) = false) : readG (f + 1) acc t = .error 4 := by
  rw [readG, if_neg ht, h]
  dsimp only
  rw [k]
  dsimp only
  rw [if_pos h4]
theorem readG_good (f : Nat) (acc : List C) (t a r b q : List UInt8) (ht : t ≠ []) (h : cutT t = some (a, r)) (k : cutT r = some (b, q)) (h4 : ¬ (acc.length = 1000 ∨ okC (a, b) = false)) : readG (f + 1) acc t = readG f (acc ++ [(a, b)]) q := by
  rw [readG, if_neg ht, h]
  dsimp only
  rw [k]
  dsimp only
  rw [if_neg h4]
theorem cut_less (t a r : List UInt8) (h : cutT t = some (a, r)) : r.length + 2 ≤ t.length := by
  have := (cutT_some t a r h).1
  rw [this, List.length_append, tell_length]
  omega

set_option maxHeartbeats 6400000 in
theorem read_any (s : ByteArray) (L : List C) (N : Nat) (E : Int) (w : World) (hL : L = outL (read s.data.toList)) (hE : E = outE (read s.data.toList)) (hN : L.length = N) (hs : s.size ≤ 1000000000) :
    Calls Tryd.prog 33 #[.string s] w fun e w' => ∃ ao co, e = .returned (.tuple #[.slice ao N co, .int .i64 E]) ∧ CelR w' ao (ofC L) ∧ (∀ q, ao = some q → w.heap.size ≤ q.block) ∧ Below w.heap.size w w' := by
  have HL := Lib.hid (And.intro hL (And.intro hE hN))
  clear hL hE hN
  go_enter Tryd.func33, Tryd.ntmps33
  go_wp2
  go_loopw [0, 4] (fun sv ov wr => ∃ (f m : Nat) (acc : List K) (t : ByteArray), sv = .string t ∧ t.size ≤ f ∧ t.size ≤ 1000000000 ∧ m ≤ 1000 ∧ wr.ownsRow w.heap.size 50 2 ov m (cellsV acc) ∧ read s.data.toList = readG f (toC acc) t.data.toList ∧ Below w.heap.size w wr) (fun sv _ _ => lenOf sv)
  case atStart => exact ⟨s.size, 0, [], s, rfl, Nat.le_refl _, hs, by omega, own_start w _, rfl, Below.refl _ _⟩
  case round =>
    obtain ⟨f, m, acc, t, rfl, hf, hts, hm, hown, hg, hb⟩ := hrel
    have HB := Lib.hid hb
    have HG := Lib.hid hg
    have HO := Lib.hid hown
    clear hb hg hown
    obtain ⟨ao, co, rfl, hlen, hcel, hfr⟩ := own_cel HO.out
    by_cases hz : t.size = 0
    · have ht0 : t.data.toList = [] := List.eq_nil_of_length_eq_zero hz
      have hemp : t.toList.isEmpty = true := by rw [ByteArray.toList_eq, ht0]; rfl
      have hfin : read s.data.toList = .ok (toC acc) := by rw [HG.out, ht0, readG_done]
      have hL3 := HL.out
      rw [hfin] at hL3
      obtain ⟨hL, hE, hN⟩ := hL3
      obtain rfl : L = toC acc := hL
      obtain rfl : E = 0 := hE
      obtain rfl : m = N := by rw [← hN, toC_length]; exact hlen
      have HC := Lib.hid (show CelR wr ao (ofC (toC acc)) from by rw [ofC_toC]; exact hcel)
      have HF := Lib.hid hfr
      clear hfin hcel hfr hlen hN ht0 hz HG HL hf
      go_wp2
      go_ret2
      exact ⟨ao, co, rfl, HC.out, HF.out, HB.out⟩
    have htn : t.data.toList ≠ [] := fun h => hz (by show t.data.toList.length = 0; rw [h]; rfl)
    have hemp : t.toList.isEmpty = false := by
      rw [ByteArray.toList_eq]
      cases hl : t.data.toList with
      | nil => exact absurd hl htn
      | cons a r => rfl
    obtain ⟨f, rfl⟩ : ∃ g, f = g + 1 := ⟨f - 1, by omega⟩
    have HLN := Lib.hid hlen
    clear hcel hfr hlen hz
    cases h1 : cutT t.data.toList with
    | none =>
      have hfin : read s.data.toList = .error 2 := by rw [HG.out, readG_none f _ _ htn h1]
      have RA := Lib.hid (fun u => cut_any t ⟨#[]⟩ ⟨#[]⟩ false u (by rw [h1]; rfl) (by rw [h1]; rfl) (by rw [h1]; rfl) hts)
      have RB := Lib.hid (fun u => cut_any ⟨#[]⟩ ⟨#[]⟩ ⟨#[]⟩ false u (by rfl) (by rfl) (by rfl) (by decide))
      obtain ⟨hL, hE, hN⟩ := HL.out
      rw [hfin] at hL hE
      obtain rfl : L = [] := hL
      obtain rfl : E = 2 := hE
      obtain rfl : N = 0 := hN.symm
      clear hfin hN HL HG hf h1 htn hts
      go_wp2_with ((first
          | (with_reducible (refine (RA.out _).mono ?_; rintro e wa ⟨rfl, -, hb⟩; replace HO := Lib.hid (Strs.own_below HO.out hb); replace HB := Lib.hid (HB.out.trans (hb.mono HB.out.size)); clear hb))
          | (with_reducible (refine (RB.out _).mono ?_; rintro e wb ⟨rfl, -, hb⟩; replace HO := Lib.hid (Strs.own_below HO.out hb); replace HB := Lib.hid (HB.out.trans (hb.mono HB.out.size)); clear hb))))
      go_ret2
      exact ⟨none, 0, rfl, CelR.none _ _, (fun q hq => by cases hq), HB.out⟩
    | some x =>
      obtain ⟨a, r⟩ := x
      have hlt1 := cut_less _ _ _ h1
      have RA := Lib.hid (fun u => cut_any t (tx a) (tx r) true u (by rw [h1]; rfl) (by rw [h1]; rfl) (by rw [h1]; rfl) hts)
      have hrs : (tx r).size ≤ 1000000000 := by rw [tx_size]; have : t.data.toList.length = t.size := rfl; omega
      cases h2 : cutT r with
      | none =>
        have hfin : read s.data.toList = .error 2 := by rw [HG.out, readG_half f _ _ a r htn h1 h2]
        have RB := Lib.hid (fun u => cut_any (tx r) ⟨#[]⟩ ⟨#[]⟩ false u (by rw [tx_list, h2]; rfl) (by rw [tx_list, h2]; rfl) (by rw [tx_list, h2]; rfl) hrs)
        generalize tx a = A at *
        generalize tx r = R at *
        obtain ⟨hL, hE, hN⟩ := HL.out
        rw [hfin] at hL hE
        obtain rfl : L = [] := hL
        obtain rfl : E = 2 := hE
        obtain rfl : N = 0 := hN.symm
        clear hfin hN HL HG hf h1 h2 htn hts hrs hlt1
        go_wp2_with ((first
            | (with_reducible (refine (RA.out _).mono ?_; rintro e wa ⟨rfl, -, hb⟩; replace HO := Lib.hid (Strs.own_below HO.out hb); replace HB := Lib.hid (HB.out.trans (hb.mono HB.out.size)); clear hb))
            | (with_reducible (refine (RB.out _).mono ?_; rintro e wb ⟨rfl, -, hb⟩; replace HO := Lib.hid (Strs.own_below HO.out hb); replace HB := Lib.hid (HB.out.trans (hb.mono HB.out.size)); clear hb))))
        go_ret2
        exact ⟨none, 0, rfl, CelR.none _ _, (fun q hq => by cases hq), HB.out⟩
      | some y =>
        obtain ⟨b, q⟩ := y
        have hlt2 := cut_less _ _ _ h2
        have RB := Lib.hid (fun u => cut_any (tx r) (tx b) (tx q) true u (by rw [tx_list, h2]; rfl) (by rw [tx_list, h2]; rfl) (by rw [tx_list, h2]; rfl) hrs)
        obtain ⟨A, hA⟩ : ∃ A, A = tx a := ⟨_, rfl⟩
        obtain ⟨D, hD⟩ : ∃ D, D = tx b := ⟨_, rfl⟩
        obtain ⟨Q, hQ⟩ : ∃ Q, Q = tx q := ⟨_, rfl⟩
        have hAs : A.size = a.length := by rw [hA, tx_size]
        have hDs : D.size = b.length := by rw [hD, tx_size]
        have hQs : Q.size + 4 ≤ t.size := by rw [hQ, tx_size]; have : t.data.toList.length = t.size := rfl; omega
        rw [← hA] at RA
        rw [← hD, ← hQ] at RB
        have hml : (toC acc).length = m := by rw [toC_length]; exact HLN.out.symm
        by_cases h4 : m = 1000 ∨ okC (a, b) = false
        · have hfin : read s.data.toList = .error 4 := by rw [HG.out, readG_bad f _ _ a r b q htn h1 h2 (by rw [hml]; exact h4)]
          have hor : m = 1000 ∨ (m ≠ 1000 ∧ (A.size < 1 ∨ (1 ≤ A.size ∧ (200 < A.size ∨ (A.size ≤ 200 ∧ 6000 < D.size))))) := by
            by_cases k : m = 1000
            · exact .inl k
            · right
              have k2 : ¬ (1 ≤ a.length ∧ a.length ≤ 200 ∧ b.length ≤ 6000) := fun k3 => by
                have := (okC_iff (a, b)).2 k3
                rw [h4.resolve_left k] at this
                cases this
              omega
          obtain ⟨hL, hE, hN⟩ := HL.out
          rw [hfin] at hL hE
          obtain rfl : L = [] := hL
          obtain rfl : E = 4 := hE
          obtain rfl : N = 0 := hN.symm
          clear hfin hN HL HG hf h1 h2 h4 htn hts hrs hlt1 hlt2 hA hD hQ hAs hDs hQs hml HLN
          generalize tx r = R at *
          rcases hor with k | ⟨k, k1 | ⟨k1, k2 | ⟨k2, k3⟩⟩⟩
          · have d0 : ((m : Int) == 1000) = true := by simp; omega
            clear k
            go_wp2_with ((first
              | (with_reducible (refine (RA.out _).mono ?_; rintro e wa ⟨rfl, -, hb⟩; replace HO := Lib.hid (Strs.own_below HO.out hb); replace HB := Lib.hid (HB.out.trans (hb.mono HB.out.size)); clear hb))
              | (with_reducible (refine (RB.out _).mono ?_; rintro e wb ⟨rfl, -, hb⟩; replace HO := Lib.hid (Strs.own_below HO.out hb); replace HB := Lib.hid (HB.out.trans (hb.mono HB.out.size)); clear hb))))
            go_ret2
            exact ⟨none, 0, rfl, CelR.none _ _, (fun q hq => by cases hq), HB.out⟩
          · have d0 : ((m : Int) == 1000) = false := by simp; omega
            have d1 : decide ((A.size : Int) < 1) = true := decide_eq_true (by omega)
            have d1b : decide (A.size < 1) = true := decide_eq_true k1
            clear k k1
            go_wp2_with ((first
              | (with_reducible (refine (RA.out _).mono ?_; rintro e wa ⟨rfl, -, hb⟩; replace HO := Lib.hid (Strs.own_below HO.out hb); replace HB := Lib.hid (HB.out.trans (hb.mono HB.out.size)); clear hb))
              | (with_reducible (refine (RB.out _).mono ?_; rintro e wb ⟨rfl, -, hb⟩; replace HO := Lib.hid (Strs.own_below HO.out hb); replace HB := Lib.hid (HB.out.trans (hb.mono HB.out.size)); clear hb))))
            go_ret2
            exact ⟨none, 0, rfl, CelR.none _ _, (fun q hq => by cases hq), HB.out⟩
          · have d0 : ((m : Int) == 1000) = false := by simp; omega
            have d1 : decide ((A.size : Int) < 1) = false := decide_eq_false (by omega)
            have d1b : decide (A.size < 1) = false := decide_eq_false (by omega)
            have d2 : decide (200 < (A.size : Int)) = true := decide_eq_true (by omega)
            have d2b : decide (200 < A.size) = true := decide_eq_true k2
            clear k k1 k2
            go_wp2_with ((first
              | (with_reducible (refine (RA.out _).mono ?_; rintro e wa ⟨rfl, -, hb⟩; replace HO := Lib.hid (Strs.own_below HO.out hb); replace HB := Lib.hid (HB.out.trans (hb.mono HB.out.size)); clear hb))
              | (with_reducible (refine (RB.out _).mono ?_; rintro e wb ⟨rfl, -, hb⟩; replace HO := Lib.hid (Strs.own_below HO.out hb); replace HB := Lib.hid (HB.out.trans (hb.mono HB.out.size)); clear hb))))
            go_ret2
            exact ⟨none, 0, rfl, CelR.none _ _, (fun q hq => by cases hq), HB.out⟩
          · have d0 : ((m : Int) == 1000) = false := by simp; omega
            have d1 : decide ((A.size : Int) < 1) = false := decide_eq_false (by omega)
            have d1b : decide (A.size < 1) = false := decide_eq_false (by omega)
            have d2 : decide (200 < (A.size : Int)) = false := decide_eq_false (by omega)
            have d2b : decide (200 < A.size) = false := decide_eq_false (by omega)
            have d3 : decide (6000 < (D.size : Int)) = true := decide_eq_true (by omega)
            have d3b : decide (6000 < D.size) = true := decide_eq_true k3
            clear k k1 k2 k3
            go_wp2_with ((first
              | (with_reducible (refine (RA.out _).mono ?_; rintro e wa ⟨rfl, -, hb⟩; replace HO := Lib.hid (Strs.own_below HO.out hb); replace HB := Lib.hid (HB.out.trans (hb.mono HB.out.size)); clear hb))
              | (with_reducible (refine (RB.out _).mono ?_; rintro e wb ⟨rfl, -, hb⟩; replace HO := Lib.hid (Strs.own_below HO.out hb); replace HB := Lib.hid (HB.out.trans (hb.mono HB.out.size)); clear hb))))
            go_ret2
            exact ⟨none, 0, rfl, CelR.none _ _, (fun q hq => by cases hq), HB.out⟩
        · have hg2 : read s.data.toList = readG f (toC (acc ++ [(A, D)])) Q.data.toList := by
            rw [HG.out, readG_good f _ _ a r b q htn h1 h2 (by rw [hml]; exact h4), toC_snoc, hA, hD, hQ]
          have k0 : m ≠ 1000 := fun k => h4 (.inl k)
          have k1 := (okC_iff (a, b)).1 (by simpa using fun k => h4 (.inr k))
          have k1a : 1 ≤ a.length := k1.1
          have k1b : a.length ≤ 200 := k1.2.1
          have k1c : b.length ≤ 6000 := k1.2.2
          have HG2 := Lib.hid hg2
          have d0 : ((m : Int) == 1000) = false := by simp; omega
          have d1 : decide ((A.size : Int) < 1) = false := decide_eq_false (by omega)
          have d1b : decide (A.size < 1) = false := decide_eq_false (by omega)
          have d2 : decide (200 < (A.size : Int)) = false := decide_eq_false (by omega)
          have d2b : decide (200 < A.size) = false := decide_eq_false (by omega)
          have d3 : decide (6000 < (D.size : Int)) = false := decide_eq_false (by omega)
          have d3b : decide (6000 < D.size) = false := decide_eq_false (by omega)
          have HQS := Lib.hid (show Q.size ≤ f ∧ Q.size ≤ 1000000000 ∧ m + 1 ≤ 1000 ∧ Q.size < t.size from by omega)
          clear hg2 k1 k1a k1b k1c h1 h2 h4 htn hrs hlt1 hlt2 hA hD hQ hAs hDs hQs hml HLN HG hf
          generalize tx r = R at *
          go_upto_region 9 with ((first
            | (with_reducible (refine (RA.out _).mono ?_; rintro e wa ⟨rfl, -, hb⟩; replace HO := Lib.hid (Strs.own_below HO.out hb); replace HB := Lib.hid (HB.out.trans (hb.mono HB.out.size)); clear hb))
            | (with_reducible (refine (RB.out _).mono ?_; rintro e wb ⟨rfl, -, hb⟩; replace HO := Lib.hid (Strs.own_below HO.out hb); replace HB := Lib.hid (HB.out.trans (hb.mono HB.out.size)); clear hb))))
          obtain ⟨wc, hwc⟩ : ∃ wc, wc = wb := ⟨_, rfl⟩
          have HB3 := Lib.hid (HB.out.alloc HB.out.size (.cells #[.string A, .string D] 50))
          have HO3 := Lib.hid (Strs.own_below HO.out ((Below.refl wb.heap.size wb).alloc (Nat.le_refl _) (.cells #[.string A, .string D] 50)))
          clear hwc
          go_wp2_with (at_builtin; refine append_cel rfl _ _ rfl w.heap.size m _ acc rfl HO3.out wb.heap.size 1 (A, D) rfl (new_cel wb (A, D) _) (by omega) HB3.out.size ?_; intro v' w4 hown4 hgrow4)
          have HO4 := Lib.hid hown4
          have HB4 := Lib.hid (HB3.out.grown hgrow4 HB3.out.size (fun q hq => (HO3.out.lt q hq).1))
          clear hown4 hgrow4
          go_wp2
          go_roundw
          case rel => exact ⟨f, m + 1, acc ++ [(A, D)], Q, rfl, HQS.out.1, HQS.out.2.1, HQS.out.2.2.1, HO4.out, HG2.out, HB4.out⟩
          case measure => exact HQS.out.2.2.2
end Go.Proofs.YtpamdpfgcbadhaaDoor.RTap
