/-
  Proof of package grove answers what the plain mathematics of the text Grv says, and leaves all memory that was there as it was. Conditions: seed and room have together no more than 2^35 bytes, no more than 1000000 leaves; the constant table of package digest lies as the program's text lays it.
-/
import Derived.Test.YtncafbejgidliaaDoorGrvG
import Derived.Test.YtncafbejgidliaaDoorUseK
namespace Go.Proofs.YtncafbejgidliaaDoor.Grv
open Go.RowKit Mur Sha Chn
set_option maxRecDepth 100000

/-- A slice of numbers beside a Builder at block B. -/
def IntsB (B : Nat) (w : World) (a : Option Addr) (l : List Nat) : Prop := ∃ b o, a = some ⟨b, o, none⟩ ∧ b < w.heap.size ∧ (∀ i x, l[i]? = some x → w.cell? ⟨b, o + i, none⟩ = some (.int .i64 ((x : Nat) : Int))) ∧ (b < B ∨ (b ≠ B ∧ ∃ cur fz, w.heap[b]? = some (.cells cur 3 fz)))
theorem IntsB.below {B : Nat} {w w' : World} {a : Option Addr} {l : List Nat} (h : IntsB B w a l) (k : Below w.heap.size w w') : IntsB B w' a l := by
  obtain ⟨b, o, ha, hb, hc, ht⟩ := h
  refine ⟨b, o, ha, Nat.lt_of_lt_of_le hb k.size, fun i x hx => (k.cell (p := ⟨b, o + i, none⟩) hb).trans (hc i x hx), ?_⟩
  rcases ht with ht | ⟨hne, cur, fz, ht⟩
  · exact .inl ht
  · exact .inr ⟨hne, cur, fz, (k.block b hb).trans ht⟩
theorem IntsB.write {B : Nat} {w w' : World} {a : Option Addr} {l : List Nat} (h : IntsB B w a l) (k : Below B w w') (o : Lib.OthersKept 5 (some B) w w') : IntsB B w' a l := by
  obtain ⟨b, o', ha, hb, hc, ht⟩ := h
  have hsz : B ≤ w.heap.size ∨ w.heap.size < B := by omega
  rcases ht with ht | ⟨hne, cur, fz, ht⟩
  · exact ⟨b, o', ha, by
      have := k.block b ht
      have h2 : (w'.heap[b]?).isSome := by rw [this, Array.getElem?_eq_getElem hb]; rfl
      exact (Array.getElem?_eq_some_iff.1 (Option.eq_some_of_isSome h2)).1, fun i x hx => (k.cell (p := ⟨b, o' + i, none⟩) ht).trans (hc i x hx), .inl ht⟩
  · have h2 := Use.kept_block o ht hne (by decide)
    refine ⟨b, o', ha, (Array.getElem?_eq_some_iff.1 h2).1, fun i x hx => ?_, .inr ⟨hne, cur, fz, h2⟩⟩
    rw [← hc i x hx]
    simp only [World.cell?, h2, ht]
theorem IntsB.read {B : Nat} {w : World} {a : Option Addr} {l : List Nat} (h : IntsB B w a l) : IntsR w a (zl l) := fun _ => by
  obtain ⟨b, o, ha, hb, hc, -⟩ := h
  refine ⟨b, o, ha, hb, fun i x hx => ?_⟩
  have hi : i < l.length := by have := (List.getElem?_eq_some_iff.1 hx).1; rwa [zl_length] at this
  have := hc i l[i] (List.getElem?_eq_getElem hi)
  rw [this]
  have e : (zl l)[i]? = some ((l[i] : Nat) : Int) := zl_at (List.getElem?_eq_getElem hi)
  rw [e] at hx
  rw [Option.some.inj hx]

theorem IntsB.of {B : Nat} {w : World} {a : Option Addr} {l : List Nat} (hl : l.length ≠ 0) (hr : IntsR w a (zl l)) {g : Nat} {cur : Array Value} {fz : Nat × Nat} (ha : a = some ⟨g, 0, none⟩) (hg : B < g) (hh : w.heap[g]? = some (.cells cur 3 fz)) : IntsB B w a l := by
  obtain ⟨b, o, hab, hb, hc⟩ := hr (by rw [zl_length]; exact hl)
  rw [ha] at hab
  cases hab
  exact ⟨g, 0, ha, hb, fun i x hx => hc i _ (zl_at hx), .inr ⟨by omega, cur, fz, hh⟩⟩
theorem IntsB.old {B : Nat} {w0 w : World} {a : Option Addr} {l : List Nat} (hl : l.length ≠ 0) (hr : IntsR w0 a (zl l)) (hB : w0.heap.size ≤ B) (k : Below w0.heap.size w0 w) : IntsB B w a l := by
  obtain ⟨b, o, ha, hb, hc⟩ := hr (by rw [zl_length]; exact hl)
  exact ⟨b, o, ha, Nat.lt_of_lt_of_le hb k.size, fun i x hx => (k.cell (p := ⟨b, o + i, none⟩) hb).trans (hc i _ (zl_at hx)), .inl (by omega)⟩
theorem IntsB.cellAt {B : Nat} {w : World} {b o : Nat} {l : List Nat} (h : IntsB B w (some ⟨b, o, none⟩) l) {i x : Nat} (hx : l[i]? = some x) : w.cell? ⟨b, o + i, none⟩ = some (.int .i64 (x : Int)) := by
  obtain ⟨b', o', e, -, hc, -⟩ := h
  cases e
  exact hc i x hx

theorem builderF_lt {T e : TypeId} {B b : Nat} {bs : List Value} {w : World} (h : Lib.IsBuilderF T e B b bs w) : b < w.heap.size := by
  have one : ∀ p, Lib.BuilderAtF T e B b p bs w → b < w.heap.size := fun p h => by
    obtain ⟨-, v, hb, -⟩ := h
    exact (Array.getElem?_eq_some_iff.1 hb).1
  exact h.elim (one _) (one _)

/-- Is it among them? -/
theorem search_any (l : List Nat) (n : Nat) (hu : Up l) (hl : l.length = n) (hn : n ≤ 1000000) (a : Option Addr) (cap x : Nat) (w : World) (hr : IntsR w a (zl l)) :
    Calls Tryd.prog 35 #[.slice a n cap, .int .i64 (x : Int)] w fun e w' => ∃ z : Int, e = .returned (.tuple #[.int .i64 z, .bool (decide (x ∈ l))]) ∧ Below w.heap.size w w' := by
  by_cases h0 : n = 0
  · subst h0
    obtain rfl : l = [] := List.eq_nil_of_length_eq_zero hl
    refine (Any.slices_BinarySearch_int_empty Tryd.laysNm225 a cap (x : Int) w).mono ?_
    rintro e w' ⟨rfl, rfl⟩
    exact ⟨0, by simp, Below.refl _ _⟩
  · obtain ⟨b, o, rfl, hb, hc⟩ := hr (by rw [zl_length]; omega)
    have hz : (zl l).length = n := by rw [zl_length, hl]
    have htk : (zl l).take n = zl l := List.take_of_length_le (by omega)
    have hs : ((zl l).take n).Pairwise (· ≤ ·) := by
      rw [htk]
      unfold zl
      rw [List.pairwise_map]
      exact hu.imp fun h => by omega
    refine (Any.slices_BinarySearch_int Tryd.laysNm225 b o n cap (zl l) (x : Int) w (by omega) (by omega) (fun j hj => by
      rw [hc j ((zl l)[j]) (List.getElem?_eq_getElem hj)]
      simp [List.getD, hj]) hs).mono ?_
    rintro e w' ⟨rfl, q, rfl⟩
    have this : (zl l).contains (x : Int) = decide (x ∈ l) := by
      rw [Bool.eq_iff_iff, List.contains_iff_mem, decide_eq_true_iff]
      unfold zl
      rw [List.mem_map]
      constructor
      · rintro ⟨y, hy, e⟩
        have : y = x := by omega
        rw [← this]; exact hy
      · exact fun h => ⟨x, h, rfl⟩
    exact ⟨((((zl l).take n).countP (· < (x : Int)) : Nat) : Int), by rw [htk, this], belowN (Below.refl _ _) q⟩

/-- What the numbers of a height bring, the first k. -/
def part (N : Nat) (seed room : List UInt8) (z : Nat) (l : List Nat) (k : Nat) : List UInt8 := (l.take k).flatMap (bring N seed room z l)
theorem part_next (N : Nat) (seed room : List UInt8) (z : Nat) (l : List Nat) (k : Nat) (h : k < l.length) : part N seed room z l (k + 1) = part N seed room z l k ++ bring N seed room z l l[k] := by
  unfold part
  rw [List.take_succ_eq_append_getElem h, List.flatMap_append, List.flatMap_singleton]
theorem part_all (N : Nat) (seed room : List UInt8) (z : Nat) (l : List Nat) (hu : Up l) : part N seed room z l l.length = proofP N seed room z l := by
  unfold part
  rw [List.take_length, proofP_bring N seed room z l hu]
theorem part_length (N : Nat) (seed room : List UInt8) (z : Nat) (l : List Nat) (k : Nat) (h : N ≤ 32) : (part N seed room z l k).length ≤ l.length * 32 := by
  have h1 := flat_len (bring N seed room z l) (l.take k) 32 (fun n => bring_length N seed room z l n h)
  have h2 : (l.take k).length * 32 ≤ l.length * 32 := Nat.mul_le_mul_right _ (by simp [Nat.min_le_right])
  exact Nat.le_trans h1 h2

set_option maxHeartbeats 3200000 in
theorem proof_no (n h : Int) (seed room : ByteArray) (zs : List Int) (m : Nat) (a : Option Addr) (cap : Nat) (w : World) (hr : IntsR w a zs) (hm : zs.length = m) (hm2 : m ≤ 1000000) (hno : ¬ (Right n h ∧ okL (2 ^ h.toNat) zs = true)) :
    Calls Tryd.prog 16 #[.agg #[.int .i64 n, .int .i64 h], .string seed, .string room, .slice a m cap] w fun e w' => e = .returned (.string ⟨#[]⟩) ∧ Below w.heap.size w w' := by
  have hB0 := (Below.refl w.heap.size w).alloc (Nat.le_refl _) (.cells #[.int .i64 n, .int .i64 h] 23)
  have hc0 : (w.alloc (.cells #[.int .i64 n, .int .i64 h] 23)).cell? ⟨w.heap.size, 0, none⟩ = some (.int .i64 n) := by simp
  have hc1 : (w.alloc (.cells #[.int .i64 n, .int .i64 h] 23)).cell? ⟨w.heap.size, 1, none⟩ = some (.int .i64 h) := by simp
  have hl0 : w.heap.size < (w.alloc (.cells #[.int .i64 n, .int .i64 h] 23)).heap.size := by simp
  go_enter Tryd.func16, Tryd.ntmps16
  go_upto_region 1 with (fail)
  generalize w.alloc (.cells #[.int .i64 n, .int .i64 h] 23) = wz at *
  have HC := Lib.hid (fun (u : World) (q : Below wz.heap.size wz u) => (⟨(q.cell (p := ⟨w.heap.size, 0, none⟩) hl0).trans hc0, (q.cell (p := ⟨w.heap.size, 1, none⟩) hl0).trans hc1⟩ :
    u.cell? ⟨w.heap.size, 0, none⟩ = some (.int .i64 n) ∧ u.cell? ⟨w.heap.size, 1, none⟩ = some (.int .i64 h)))
  have HB0 := Lib.hid hB0
  have HL0 := Lib.hid hl0
  by_cases hri : Right n h
  · have R1 := Lib.hid (fun u => right_yes n h hri u)
    have R2 := Lib.hid (fun (u : World) (q : Below wz.heap.size wz u) => show Calls Tryd.prog 34 #[.slice a m cap, .int .i64 h] u fun e w' => e = .returned (.bool false) ∧ Below u.heap.size u w' from by
      have g := rising_any zs m a cap h.toNat false u (hr.below (hB0.trans (q.mono (Nat.le_of_lt hl0)))) hm hm2 (by have := hri.2.2.2; omega) (by
        cases hx : okL (2 ^ h.toNat) zs with
        | false => rfl
        | true => exact absurd ⟨hri, hx⟩ hno)
      rw [show ((h.toNat : Nat) : Int) = h by have := hri.2.2.1; omega] at g
      exact g)
    clear hri hB0 hl0 hr hm hm2 hno
    go_wp2_with fail
    refine (R1.out _).mono ?_
    rintro e w1 ⟨rfl, hb1⟩
    have HW1 := Lib.hid hb1
    clear hb1 hc0 hc1
    obtain ⟨c0, c1⟩ := HC.out _ HW1.out
    go_wp2_with fail
    refine (R2.out _ HW1.out).mono ?_
    rintro e w2 ⟨rfl, hb2⟩
    have HW2 := Lib.hid (HW1.out.trans (hb2.mono HW1.out.size))
    clear hb2
    go_wp2
    go_ret
    exact ⟨rfl, HB0.out.trans (HW2.out.mono (Nat.le_of_lt HL0.out))⟩
  · have R1 := Lib.hid (fun u => right_no n h hri u)
    clear hri hB0 hl0 hr hm hm2 hno
    go_wp2_with fail
    refine (R1.out _).mono ?_
    rintro e w1 ⟨rfl, hb1⟩
    have HW1 := Lib.hid hb1
    clear hb1
    go_wp2
    go_ret
    exact ⟨rfl, HB0.out.trans (HW1.out.mono (Nat.le_of_lt HL0.out))⟩

set_option maxHeartbeats 6400000 in
theorem proof_any (N H : Nat) (seed room V : ByteArray) (l : List Nat) (m : Nat) (a : Option Addr) (cap : Nat) (w : World) (hri : Right (N : Int) (H : Int)) (hr : IntsR w a (zl l)) (hm : l.length = m) (hm2 : m ≤ 1000000) (h0 : 0 < m) (hu : Up l) (hlt : ∀ x ∈ l, x < 2 ^ H)
    (hs : seed.size + room.size ≤ 34359738368) (hV : V = tx (proof N H seed.data.toList room.data.toList l)) (hk : Consts w) :
    Calls Tryd.prog 16 #[.agg #[.int .i64 (N : Int), .int .i64 (H : Int)], .string seed, .string room, .slice a m cap] w fun e w' => e = .returned (.string V) ∧ Below w.heap.size w w' := by
  have hN : N ≤ 32 := by have := hri.2.1; omega
  have hH : H ≤ 8 := by have := hri.2.2.2; omega
  have hl8 := pow_256 H hH
  have hb0 : 2 ^ (H - 0) ≤ 256 := by rw [Nat.sub_zero]; exact hl8
  have hB0 := (Below.refl w.heap.size w).alloc (Nat.le_refl _) (.cells #[.int .i64 (N : Int), .int .i64 (H : Int)] 23)
  have R1 := Lib.hid (fun u => right_yes N H hri u)
  have R2 := Lib.hid (fun (u : World) (q : Below w.heap.size w u) => show Calls Tryd.prog 34 #[.slice a m cap, .int .i64 (H : Int)] u fun e w' => e = .returned (.bool true) ∧ Below u.heap.size u w' from
    rising_any (zl l) m a cap H true u (hr.below q) (by rw [zl_length, hm]) hm2 (by omega) (by
      rw [okL, okI_zl _ l 0 hu (fun n hn => by
        have h1 : ((n : Nat) : Int) < ((2 ^ H : Nat) : Int) := Int.ofNat_lt.2 (hlt n hn)
        rw [Int.natCast_pow] at h1
        exact h1) (fun n _ => by omega), zl_length, hm, decide_eq_true h0]
      rfl))
  have hnu := fun z => nums_up l hu z
  have hnl := fun z (hz : z ≤ H) => nums_lt l H hlt z hz
  have hnn := fun z => nums_length l z
  have hne := fun z => show (nums l z).length ≠ 0 from fun e => nums_ne l (by intro e; rw [e] at hm; simp at hm; omega) z (List.eq_nil_of_length_eq_zero e)
  have RS := Lib.hid (fun (z : Nat) (a : Option Addr) (cap x : Nat) (u : World) (h : IntsR u a (zl (nums l z))) => search_any (nums l z) (nums l z).length (hnu z) rfl (by have := hnn z; omega) a cap x u h)
  have RH := Lib.hid (fun (z : Nat) (hz : z ≤ H) (a : Option Addr) (cap : Nat) (u : World) (h : IntsR u a (zl (nums l z))) => halves_any (nums l z) (nums l z).length a cap u h rfl (Nat.pos_of_ne_zero (hne z)) (by have := hnn z; omega) (hnu z) (fun x hx => by
    have h1 := hnl z hz x hx
    have h2 := pow_256 (H - z) (by omega)
    omega))
  have RN := Lib.hid (fun (z : Nat) (hz : z < H) (k : Nat) (hkk : k < (nums l z).length) (P : ByteArray) (hP : P = tx (node N seed.data.toList room.data.toList z (sib (nums l z)[k]))) (u : World) (hu : Consts u) => node_any N H z (sib (nums l z)[k]) seed room P u hri (by omega) (by
    have h1 := hnl z (by omega) _ (List.getElem_mem hkk)
    rw [show H - z = (H - z - 1) + 1 by omega, Nat.pow_succ, Nat.mul_comm] at h1 ⊢
    exact sib_lt _ _ h1) hs hP hu)
  have HNL := Lib.hid (fun (z : Nat) (hz : z ≤ H) (x : Nat) (hx : x ∈ nums l z) => show x ≤ 256 from by
    have h1 := hnl z hz x hx
    have h2 := pow_256 (H - z) (by omega)
    omega)
  have HNS := Lib.hid (fun z => node_length N seed.data.toList room.data.toList z · hN)
  obtain ⟨F, hF⟩ : ∃ F : Nat → List UInt8, F = fun z => proofP N seed.data.toList room.data.toList z (nums l z) := ⟨_, rfl⟩
  obtain ⟨Q, hQ⟩ : ∃ Q : Nat → Nat → List UInt8, Q = fun z k => part N seed.data.toList room.data.toList z (nums l z) k := ⟨_, rfl⟩
  have HQ0 := Lib.hid (show ∀ z, Q z 0 = [] from fun z => by rw [hQ]; rfl)
  have HQN := Lib.hid (show ∀ z k (hkk : k < (nums l z).length), Q z (k + 1) = Q z k ++ bring N seed.data.toList room.data.toList z (nums l z) (nums l z)[k] from fun z k hkk => by rw [hQ]; exact part_next N _ _ z _ k hkk)
  have HQF := Lib.hid (show ∀ z, Q z (nums l z).length = F z from fun z => by rw [hQ, hF]; exact part_all N _ _ z _ (hnu z))
  have HFU := Lib.hid (show ∀ z, (upto F z).length ≤ 1000000 * 32 * z from fun z => by
    have h1 := proof_length N z seed.data.toList room.data.toList l hN
    unfold proof at h1
    rw [← hF] at h1
    refine Nat.le_trans h1 (Nat.mul_le_mul_right _ (Nat.mul_le_mul (by omega) hN)))
  have HQL := Lib.hid (show ∀ z k, (Q z k).length ≤ 32000000 from fun z k => by
    rw [hQ]
    have h1 := part_length N seed.data.toList room.data.toList z (nums l z) k hN
    have h2 := hnn z
    show (part N _ _ z _ k).length ≤ _
    omega)
  have HV := Lib.hid (show V = tx (upto F H) from by rw [hV, proof, hF])
  have HNN := Lib.hid hnn
  have HNE := Lib.hid hne
  have HR := Lib.hid hr
  have HM := Lib.hid (show (nums l 0).length = m from hm)
  clear hF hQ hV hnu hnl hnn hne hs hri hr hu hlt h0 hm hl8 hb0
  have hc0 : (w.alloc (.cells #[.int .i64 (N : Int), .int .i64 (H : Int)] 23)).cell? ⟨w.heap.size, 0, none⟩ = some (.int .i64 (N : Int)) := by simp
  have hc1 : (w.alloc (.cells #[.int .i64 (N : Int), .int .i64 (H : Int)] 23)).cell? ⟨w.heap.size, 1, none⟩ = some (.int .i64 (H : Int)) := by simp
  have hl0 : w.heap.size < (w.alloc (.cells #[.int .i64 (N : Int), .int .i64 (H : Int)] 23)).heap.size := by simp
  go_enter Tryd.func16, Tryd.ntmps16
  go_upto_region 1 with (fail)
  generalize w.alloc (.cells #[.int .i64 (N : Int), .int .i64 (H : Int)] 23) = wz at *
  have HC := Lib.hid (fun (u : World) (q : Below wz.heap.size wz u) => (⟨(q.cell (p := ⟨w.heap.size, 0, none⟩) hl0).trans hc0, (q.cell (p := ⟨w.heap.size, 1, none⟩) hl0).trans hc1, hk.below hk.1 (hB0.trans (q.mono hB0.size))⟩ : u.cell? ⟨w.heap.size, 0, none⟩ = some (.int .i64 (N : Int)) ∧ u.cell? ⟨w.heap.size, 1, none⟩ = some (.int .i64 (H : Int)) ∧ Consts u))
  have HB0 := Lib.hid hB0
  clear hB0 hl0 hk
  go_wp2_with fail
  refine (R1.out _).mono ?_
  rintro e w1 ⟨rfl, hb1⟩
  have HY1 := Lib.hid hb1
  clear hb1 hc0 hc1
  obtain ⟨c0, c1, -⟩ := HC.out _ HY1.out
  go_wp2_with fail
  refine (R2.out _ (HB0.out.trans (HY1.out.mono HB0.out.size))).mono ?_
  rintro e w2 ⟨rfl, hb2⟩
  have HB1 := Lib.hid (HY1.out.trans (hb2.mono HY1.out.size))
  clear hb2 c0 c1 HY1
  go_upto_region 4 with (fail)
  have HBU := Lib.hid (Lib.IsBuilderF.of (Use.builder_new w2.heap.size w2.heap.size _ (Nat.le_refl _) (_root_.Go.heap_alloc_new w2 (.cells #[.pointer none, .slice none 0 0] 49))))
  have HW1 := Lib.hid ((Below.refl w2.heap.size w2).alloc (Nat.le_refl _) (.cells #[.pointer none, .slice none 0 0] 49))
  have HZ2 := Lib.hid (HB1.out.trans (HW1.out.mono HB1.out.size))
  have hw0 : w.heap.size ≤ w2.heap.size := Nat.le_trans HB0.out.size HB1.out.size
  have hbb : Below w.heap.size w (w2.alloc (.cells #[.pointer none, .slice none 0 0] 49)) := HB0.out.trans (HZ2.out.mono HB0.out.size)
  have hI0 := IntsB.old (l := nums l 0) (HNE.out 0) HR.out hw0 hbb
  generalize w2.alloc (.cells #[.pointer none, .slice none 0 0] 49) = w3 at *
  have HI0 := Lib.hid hI0
  clear hI0 hbb
  obtain ⟨c0, c1, -⟩ := HC.out _ HZ2.out
  go_wp2_with fail
  clear c0 c1 HZ2
  go_loopw [10, 11, 13, 14, 15, 30] (fun x _ _ _ _ i wr => ∃ (z : Nat) (a' : Option Addr) (c n : Nat), z ≤ H ∧ i = .int .i64 z ∧ x = .slice a' n c ∧ n = (nums l z).length ∧ IntsB w2.heap.size wr a' (nums l z) ∧ Lib.IsBuilderF 49 5 w2.heap.size w2.heap.size (Lib.byteCells (upto F z)) wr ∧ Below w2.heap.size w2 wr) (fun _ _ _ _ _ i _ => H - (intOf i).toNat)
  case atStart => exact ⟨0, a, cap, m, by omega, rfl, rfl, HM.out.symm, HI0.out, HBU.out, HW1.out⟩
  case round =>
    clear HBU HW1 HI0
    obtain ⟨z, a', c, n, hz, rfl, rfl, hn, hI, hbu, hbel⟩ := hrel
    obtain ⟨wo, rfl⟩ : ∃ wo, wo = wr := ⟨wr, rfl⟩
    obtain ⟨b, o, rfl, -⟩ := id hI
    have HI := Lib.hid hI
    have HBU := Lib.hid hbu
    have HW := Lib.hid hbel
    have HN := Lib.hid hn
    have hn2 : n ≤ 1000000 := by rw [hn]; have := HNN.out z; have := HM.out; have h3 : (nums l 0).length = l.length := rfl; omega
    clear hI hbu hbel hn
    by_cases hlt : z < H
    · go_wp2_with fail
      go_loopw [13, 14, 15, 35] (fun _ _ _ i wr => ∃ k : Nat, k ≤ n ∧ i = .int .i64 k ∧ IntsB w2.heap.size wr (some ⟨b, o, none⟩) (nums l z) ∧ Lib.IsBuilderF 49 5 w2.heap.size w2.heap.size (Lib.byteCells (upto F z ++ Q z k)) wr ∧ Below w2.heap.size w2 wr) (fun _ _ _ i _ => n - (intOf i).toNat)
      case atStart => exact ⟨0, by omega, rfl, HI.out, by rw [HQ0.out, List.append_nil]; exact HBU.out, HW.out⟩
      case round =>
        clear HI HBU HW
        obtain ⟨k, hk, rfl, hI, hbu, hbel⟩ := hrel
        have HI := Lib.hid hI
        have HBU := Lib.hid hbu
        have HW := Lib.hid hbel
        clear hI hbu hbel
        by_cases hltk : k < n
        · have hkl : k < (nums l z).length := by rw [← HN.out]; exact hltk
          obtain ⟨x, hx⟩ : ∃ x, x = (nums l z)[k] := ⟨_, rfl⟩
          obtain ⟨y, hy⟩ : ∃ y, y = sib x := ⟨_, rfl⟩
          have hcc := HI.out.cellAt (i := k) (x := x) (by rw [hx]; exact List.getElem?_eq_getElem hkl)
          have hxb : x ≤ 256 := HNL.out z hz x (by rw [hx]; exact List.getElem_mem hkl)
          have hxo : bits .xor .i64 (x : Int) 1 = (y : Int) := by rw [hy]; exact xor_one x (by omega)
          have hqn := HQN.out z k hkl
          rw [← hx] at hqn
          by_cases hmem : y ∈ nums l z
          · have RS1 := RS.out z (some ⟨b, o, none⟩) c y wr HI.out.read
            rw [← HN.out, decide_eq_true hmem] at RS1
            have RS2 := Lib.hid RS1
            have hq2 : Q z (k + 1) = Q z k := by rw [hqn, bring, if_pos (by rw [← hy]; exact hmem), List.append_nil]
            have HQ2 := Lib.hid hq2
            clear RS1 hq2 hqn hx hkl hmem hy
            go_wp2_with fail
            refine RS2.out.mono ?_
            rintro e w5 ⟨zz, rfl, hb5⟩
            have HI5 := Lib.hid (HI.out.below hb5)
            have HBU5 := Lib.hid (Use.builderF_below HBU.out hb5)
            have HW5 := Lib.hid (HW.out.trans (hb5.mono HW.out.size))
            clear hb5 hcc hxo
            rw [← HQ2.out] at HBU5
            go_wp2
            go_roundw
            case rel => exact ⟨k + 1, by omega, by go_num, HI5.out, HBU5.out, HW5.out⟩
            case measure => simp [intOf]; omega
          · have RS1 := RS.out z (some ⟨b, o, none⟩) c y wr HI.out.read
            rw [← HN.out, decide_eq_false hmem] at RS1
            have RS2 := Lib.hid RS1
            obtain ⟨P, hP⟩ : ∃ P, P = tx (node N seed.data.toList room.data.toList z y) := ⟨_, rfl⟩
            have hPs : P.size = N := by rw [hP]; exact HNS.out y z
            have hq2 : upto F z ++ Q z (k + 1) = (upto F z ++ Q z k) ++ P.data.toList := by rw [hqn, bring, if_neg (by rw [← hy]; exact hmem), hP, hy, List.append_assoc]
            have hsz : (upto F z ++ Q z k).length + P.size ≤ 140737488355328 := by
              rw [List.length_append]
              have h1 := HFU.out z
              have h2 := HQL.out z k
              omega
            have RN1 := Lib.hid (fun u hu => RN.out z hlt k hkl P (by rw [hP, hy, hx]) u hu)
            rw [← hx, ← hy] at RN1
            have HQ2 := Lib.hid hq2
            have HSZ := Lib.hid hsz
            clear RS1 hq2 hqn hx hkl hmem hy hP hPs hsz
            go_wp2_with fail
            refine RS2.out.mono ?_
            rintro e w5 ⟨zz, rfl, hb5⟩
            have HI5 := Lib.hid (HI.out.below hb5)
            have HBU5 := Lib.hid (Use.builderF_below HBU.out hb5)
            have HW5 := Lib.hid (HW.out.trans (hb5.mono HW.out.size))
            clear hb5 hcc
            obtain ⟨c0, c1, hk5⟩ := HC.out _ (HB1.out.trans (HW5.out.mono HB1.out.size))
            have HK5 := Lib.hid hk5
            clear hk5
            go_wp2_with fail
            refine (RN1.out _ HK5.out).mono ?_
            rintro e w6 ⟨rfl, hb6⟩
            have HI6 := Lib.hid (HI5.out.below hb6)
            have HBU6 := Lib.hid (Use.builderF_below HBU5.out hb6)
            have HW6 := Lib.hid (HW5.out.trans (hb6.mono HW5.out.size))
            clear hb6 hxo c0 c1
            go_wp2_with fail
            refine (Use.write_k w2.heap.size w2.heap.size (upto F z ++ Q z k) _ _ HBU6.out HSZ.out HW6.out.size).mono ?_
            rintro e w7 ⟨rfl, hbu7, hb7, ho7⟩
            rw [← HQ2.out] at hbu7
            have HBU7 := Lib.hid hbu7
            have HI7 := Lib.hid (HI6.out.write hb7 ho7)
            have HW7 := Lib.hid (HW6.out.trans hb7)
            clear hbu7 hb7 ho7
            go_wp2
            go_roundw
            case rel => exact ⟨k + 1, by omega, by go_num, HI7.out, HBU7.out, HW7.out⟩
            case measure => simp [intOf]; omega
        · obtain rfl : k = n := by omega
          have RH1 := RH.out z hz (some ⟨b, o, none⟩) c wr HI.out.read
          rw [← HN.out] at RH1
          have RH2 := Lib.hid RH1
          have hbu2 := HBU.out
          rw [HN.out, HQF.out, show upto F z ++ F z = upto F (z + 1) from rfl] at hbu2
          have HBU2 := Lib.hid hbu2
          clear RH1 hbu2 HBU
          go_wp2_with fail
          refine RH2.out.mono ?_
          rintro e w5 ⟨a2, c2, rfl, hr5, hb5, g, cur, fz, ha2, hg, hh⟩
          have HI5 := Lib.hid (IntsB.of (B := w2.heap.size) (l := nums l (z + 1)) (HNE.out (z + 1)) hr5 ha2 (Nat.lt_of_lt_of_le (by
            exact builderF_lt HBU2.out) hg) hh)
          have HBU5 := Lib.hid (Use.builderF_below HBU2.out hb5)
          have HW5 := Lib.hid (HW.out.trans (hb5.mono HW.out.size))
          clear hb5 hr5 hg hh ha2
          go_wp2
          go_roundw
          case rel => exact ⟨z + 1, a2, c2, _, by omega, by go_num, rfl, rfl, HI5.out, HBU5.out, HW5.out⟩
          case measure => simp [intOf]; omega
    · obtain rfl : z = H := by omega
      go_wp2_with fail
      refine (Use.string_f w2.heap.size w2.heap.size (upto F z) wo HBU.out HW.out.size).mono ?_
      rintro e w5 ⟨rfl, -, hb5⟩
      have HZ5 := Lib.hid (HB0.out.trans ((HB1.out.trans ((HW.out.trans hb5).mono HB1.out.size)).mono HB0.out.size))
      have hVV : (⟨(upto F z).toArray⟩ : ByteArray) = V := HV.out.symm
      rw [hVV]
      clear hb5 hVV
      go_wp2
      go_ret
      exact ⟨rfl, HZ5.out⟩
end Go.Proofs.YtncafbejgidliaaDoor.Grv
