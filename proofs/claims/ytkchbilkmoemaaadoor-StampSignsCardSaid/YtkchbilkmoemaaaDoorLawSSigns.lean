/-
  StampSigns: as many texts as there are leaves are signed, each is accepted, with unlike leaves; then none are left; the public key stays: for every input, the law answers true and changes nothing that was there. Condition: the constant table lies as the program's text lays it (the card ties it).
-/
import Derived.Test.YtkchbilkmoemaaaDoorMStp
import Derived.Test.YtkchbilkmoemaaaDoorConstFrame
import Derived.Test.YtkchbilkmoemaaaDoorCards
import Derived.Test.YtkchbilkmoemaaaDoorOpen
import Derived.Test.YtkchbilkmoemaaaDoorTie
import Derived.SevenTiedAt
import Derived.SliceStrings
namespace Go.Proofs.YtkchbilkmoemaaaDoor.LawSSigns
open Go.ChangeShapes Go.WideShapes Go.ChangeAt Go.ChangeMaps Go.RowKit Mur Sha Chn Grv Stp
set_option maxRecDepth 100000

theorem rest_of (x : Int) (q : Nat) (h1 : 0 < q) (h2 : q ≤ 1000) : ∃ m : Nat, m < q ∧ wrap64 ((IntKind.u64.wrap x).tmod (q : Int)) = (m : Int) := by
  rw [IntKind.wrap_u64, Int.tmod_eq_emod_of_nonneg (by omega)]
  have h3 : 0 ≤ x % 18446744073709551616 % (q : Int) := Int.emod_nonneg _ (by omega)
  have h4 : x % 18446744073709551616 % (q : Int) < q := Int.emod_lt_of_pos _ (by omega)
  refine ⟨(x % 18446744073709551616 % (q : Int)).toNat, by omega, ?_⟩
  rw [IntWalk.wrap64_in _ (by omega)]
  omega
/-- A row of texts that came in. -/
def TextsR (w : World) (a : Option Addr) (l : List ByteArray) : Prop := l.length ≠ 0 → ∃ b o, a = some ⟨b, o, none⟩ ∧ b < w.heap.size ∧ ∀ i x, l[i]? = some x → w.cell? ⟨b, o + i, none⟩ = some (.string x)
theorem sgn_of {X : List Value} {n h nx : Int} {seed : ByteArray} (hX : X = cellsS n h seed nx) : Sgn X n h seed nx := by
  subst hX
  exact ⟨rfl, by simp [Hold.Single, cellsS, Value.oneCell'], fun j u hu => match j, hu with
    | 0, hu => hu
    | 1, hu => hu, rfl, rfl, rfl⟩

theorem sig_at (N H leaf : Nat) (seed msg : List UInt8) (h : leaf < 65536) : (signature N H seed leaf msg).getD 1 0 = UInt8.ofNat leaf := by
  rw [signature, num_two leaf h, List.append_assoc]
  simp only [List.cons_append, List.getD_cons_succ, List.getD_cons_zero]

set_option maxHeartbeats 1600000 in
theorem law_great (h : Int) (seed : ByteArray) (a : Option Addr) (m cap : Nat) (w : World) (hg : ¬ (seed.size ≤ 300 ∧ m ≤ 12)) (hk : Consts w) :
    Calls Tryd.prog 3 #[.int .i64 h, .string seed, .slice a m cap] w
      fun e w' => e = .returned (.bool true) ∧ Below w.heap.size w w' := by
  have RA := Lib.hid (fun u hu => awake_any u hu)
  have HK := Lib.hid hk
  clear hk
  by_cases h1 : seed.size ≤ 300
  · have hd1 : decide (300 < (seed.size : Int)) = false := by simp; omega
    have hd2 : decide (12 < (m : Int)) = true := by simp; omega
    go_enter Tryd.func3, Tryd.ntmps3
    go_wp2_with fail
    refine (RA.out _ HK.out).mono ?_
    rintro e w1 ⟨rfl, hb1⟩
    go_wp2
    go_ret
    exact ⟨rfl, hb1⟩
  · have hd1 : decide (300 < (seed.size : Int)) = true := by simp; omega
    go_enter Tryd.func3, Tryd.ntmps3
    go_wp2_with fail
    refine (RA.out _ HK.out).mono ?_
    rintro e w1 ⟨rfl, hb1⟩
    go_wp2
    go_ret
    exact ⟨rfl, hb1⟩

set_option maxHeartbeats 6400000 in
theorem law_small (h : Int) (seed : ByteArray) (a : Option Addr) (m cap : Nat) (ns : List ByteArray) (W : World) (hg : seed.size ≤ 300) (hm : m ≤ 12) (hj : TextsR W a ns) (hnl : ns.length = m) (hk : Consts W) :
    Calls Tryd.prog 3 #[.int .i64 h, .string seed, .slice a m cap] W
      fun e w' => e = .returned (.bool true) ∧ Below W.heap.size W w' := by
  have hd1 : decide (300 < (seed.size : Int)) = false := by simp; omega
  have hd2 : decide (12 < (m : Int)) = false := by simp; omega
  obtain ⟨H, hH3, hHm⟩ := rest_of h 3 (by omega) (by omega)
  have hr : Right ((2 : Nat) : Int) (H : Int) := by unfold Right; omega
  obtain ⟨p, hp⟩ : ∃ p, p = 2 ^ H := ⟨_, rfl⟩
  have hp256 : p ≤ 256 := by rw [hp]; exact two_pow_le H (by omega)
  have hpz : (2 : Int) ^ H = (p : Int) := by rw [hp, Int.natCast_pow]; rfl
  have hlv : leavesI (H : Int) = p := by rw [leavesI, Int.toNat_natCast, hp]
  obtain ⟨S, hS⟩ : ∃ S : ByteArray, S = tx (seedOf seed.data.toList) := ⟨_, rfl⟩
  have hSs : S.size = 32 := by rw [hS, tx_size, seedOf_length]
  obtain ⟨K, hK⟩ : ∃ K : ByteArray, K = tx (pub 2 H S.data.toList) := ⟨_, rfl⟩
  have hKs : K.size = 10 := by rw [hK, tx_size, pub_length 2 H _ (by omega)]
  obtain ⟨Lg, hLg⟩ : ∃ Lg : Nat, Lg = long 2 H := ⟨_, rfl⟩
  have hLg2 : 2 ≤ Lg := by rw [hLg, long]; omega
  obtain ⟨Y, hY, hYc⟩ := named_shape 2 H
  obtain ⟨X0, hX0, hXc0⟩ := named 2 H S 0
  have r1 : ∀ u, Below W.heap.size W u → Calls Tryd.prog 7 #[.agg #[.int .i64 2, .int .i64 (H : Int)], .string seed] u fun e w' => e = .returned (.tuple #[.agg #[.int .i64 2, .int .i64 (H : Int), .string S, .int .i64 0], .int .i64 0]) ∧ Below u.heap.size u w' :=
    fun u hu => make_any 2 H seed S u hr (by omega) hS (hk.below hk.1 hu)
  have r2 : ∀ (k : Nat) u, Below W.heap.size W u → Calls Tryd.prog 8 #[.agg #[.int .i64 2, .int .i64 (H : Int), .string S, .int .i64 (k : Int)]] u fun e w' => e = .returned (.string K) ∧ Below u.heap.size u w' :=
    fun k u hu => pub_any 2 H k S K u hr (by omega) hK (hk.below hk.1 hu)
  have r3 : ∀ (k : Nat) (x A : ByteArray), k < p → x.size ≤ 300 → A = tx (signature 2 H S.data.toList k x.data.toList) → ∀ u, Below W.heap.size W u → Calls Tryd.prog 9 #[.agg #[.int .i64 2, .int .i64 (H : Int), .string S, .int .i64 (k : Int)], .string x] u fun e w' => e = .returned (.tuple #[.string A, .agg #[.int .i64 2, .int .i64 (H : Int), .string S, .int .i64 ((k + 1 : Nat) : Int)], .int .i64 0]) ∧ Below u.heap.size u w' :=
    fun k x A hkp hx hA u hu => sign_any 2 H k S x A u hr (by rw [← hp]; exact hkp) (by omega) (by omega) hA (hk.below hk.1 hu)
  have r4 : ∀ (x : ByteArray) u, Calls Tryd.prog 9 #[.agg #[.int .i64 2, .int .i64 (H : Int), .string S, .int .i64 (p : Int)], .string x] u fun e w' => e = .returned (.tuple #[.string ⟨#[]⟩, .agg #[.int .i64 2, .int .i64 (H : Int), .string S, .int .i64 (p : Int)], .int .i64 6]) ∧ Below u.heap.size u w' :=
    fun x u => sign_spent 2 H p S x u hr (by omega) (by omega) (by rw [hlv]; exact Int.le_refl _)
  have r5 : ∀ (k : Nat) (x A : ByteArray), k < p → x.size ≤ 300 → A = tx (signature 2 H S.data.toList k x.data.toList) → ∀ u, Below W.heap.size W u → Calls Tryd.prog 11 #[.agg #[.int .i64 2, .int .i64 (H : Int)], .string K, .string x, .string A] u fun e w' => e = .returned (.bool true) ∧ Below u.heap.size u w' :=
    fun k x A hkp hx hA u hu => check_any 2 H K x A true u hr (by rw [hA, tx_size, signature_length 2 H _ _ _ (by omega), long]; omega) (by omega) (by rw [hK, hA, tx_list, tx_list, check_signature 2 H _ k _ (by omega) (by omega) (by rw [← hp]; exact hkp)]) (hk.below hk.1 hu)
  have R6 := Lib.hid (show ∀ u, Calls Tryd.prog 10 #[.agg #[.int .i64 2, .int .i64 (H : Int)]] u fun e w' => e = .returned (.int .i64 (Lg : Int)) ∧ Below u.heap.size u w' from
    fun u => long_yes 2 H Lg hr u (by rw [hLg]))
  have r7 : ∀ (k : Nat), k ≤ p → ∀ u, Calls Tryd.prog 12 #[.agg #[.int .i64 2, .int .i64 (H : Int), .string S, .int .i64 (k : Int)]] u fun e w' => e = .returned (.int .i64 ((p : Int) - k)) ∧ Below u.heap.size u w' :=
    fun k hkp u => left_any 2 H k S _ u (by rw [leftI, if_pos ⟨hr, by omega, by rw [hlv]; omega⟩, hlv])
  have RA := Lib.hid (fun u (hu : Below W.heap.size W u) => awake_any u (hk.below hk.1 hu))
  have hsz : ∀ (k : Nat) (x A : ByteArray), k < p → A = tx (signature 2 H S.data.toList k x.data.toList) → A.size = Lg ∧ ∀ h1 : 1 < A.size, A[1].toNat = k := fun k x A hkp hA => by
    have hs : A.size = Lg := by rw [hA, tx_size, signature_length 2 H _ _ _ (by omega), hLg]
    refine ⟨hs, fun h1 => ?_⟩
    have g := at_getD A 1 h1
    have e : A.data.toList.getD 1 0 = UInt8.ofNat k := by rw [hA, tx_list]; exact sig_at 2 H k _ _ (by omega)
    rw [← g, e, UInt8.toNat_ofNat']
    omega
  rw [← hY.agg] at r1
  rw [← hX0.agg] at r1
  have R1 := Lib.hid r1
  have R2 := Lib.hid r2
  have R20 := Lib.hid (show ∀ u, Below W.heap.size W u → Calls Tryd.prog 8 #[.agg X0.toArray] u fun e w' => e = .returned (.string K) ∧ Below u.heap.size u w' from fun u hu => by rw [hX0.agg]; exact r2 0 u hu)
  have R3 := Lib.hid r3
  have R4 := Lib.hid r4
  have r5' := r5
  rw [← hY.agg] at r5'
  have R5 := Lib.hid r5'
  have r6' := R6.out
  rw [← hY.agg] at r6'
  have R6' := Lib.hid r6'
  have R7 := Lib.hid r7
  have HSZ := Lib.hid hsz
  have HY := Lib.hid hY
  have HX0 := Lib.hid hX0
  have HYA := Lib.hid hY.agg
  have HYC := Lib.hid hYc
  have HC0 := Lib.hid hXc0
  have HHM := Lib.hid hHm
  have HPZ := Lib.hid hpz
  have HJ := Lib.hid hj
  have HNL := Lib.hid hnl
  have HM := Lib.hid (Hold.Hld.start W)
  clear r1 r2 r3 r4 r5 r5' r6' r7 hsz hY hYc hX0 hXc0 hHm hpz hj hnl hS hSs hK hKs hLg hr hp hlv hk hg
  go_enter Tryd.func3, Tryd.ntmps3
  have hhm := HHM.out
  rw [show ((3 : Nat) : Int) = 3 from rfl] at hhm
  go_upto_region 4 with ((first
    | (with_reducible refine Hold.alloc HM.out rfl rfl zeroP zero_shape ?_; clear HM; intro b0 w HM; simp only [List.nil_append] at HM; replace HM := Lib.hid HM; rw [← HYA.out])
    | (with_reducible refine Hold.store HM.out 0 (v' := Y) rfl rfl rfl rfl rfl (by rw [zeroP_len, HY.out.len]; exact Nat.le_of_eq (Nat.zero_add _)) (Hold.lay_all (zeroP_len.trans HY.out.len.symm)) (HY.out.one) (by rw [HY.out.len]; exact shapeRow) ?_; clear HM; intro w HM; simp only [List.set_cons_zero] at HM; replace HM := Lib.hid HM)))

  rw [hhm]
  clear hhm
  generalize (IntKind.u64.wrap h).tmod 3 = y0
  generalize IntKind.u64.wrap h = y1
  go_upto_region 7 with ((first
    | (with_reducible refine Hold.load HM.out 0 (cs := Y) rfl rfl rfl rfl (Hold.Part.all _) (by rw [HY.out.len]; exact shapeRow) ?_)
    | (with_reducible refine (R1.out _ HM.out.below).mono ?_; rintro e w ⟨rfl, hb⟩; replace HM := Lib.hid (HM.out.next hb); clear hb)
    | (with_reducible refine Hold.alloc HM.out rfl rfl zeroS zero_sign ?_; clear HM; intro b1 w HM; simp only [List.nil_append, List.cons_append] at HM; replace HM := Lib.hid HM)
    | (with_reducible refine Hold.store HM.out 1 (v' := X0) rfl rfl rfl rfl rfl (by rw [zero_len, HX0.out.len]; exact Nat.le_of_eq (Nat.zero_add _)) (Hold.lay_all (zero_len.trans HX0.out.len.symm)) (HX0.out.one) (by rw [HX0.out.len]; exact signRow) ?_; clear HM; intro w HM; simp only [List.set_cons_zero, List.set_cons_succ] at HM; replace HM := Lib.hid HM)))

  go_upto_region 9 with ((first
    | (with_reducible refine Hold.load HM.out 1 (cs := X0) rfl rfl rfl rfl (Hold.Part.all _) (by rw [HX0.out.len]; exact signRow) ?_)
    | (with_reducible refine (R20.out _ HM.out.below).mono ?_; rintro e w ⟨rfl, hb⟩; replace HM := Lib.hid (HM.out.next hb); clear hb)))

  go_wp2_with fail
  go_loopw [11, 12, 13, 14, 15, 42] (fun _ _ _ _ _ i wr => ∃ (k : Nat) (X : List Value), k ≤ m ∧ i = .int .i64 (k : Int) ∧ X = cellsS 2 H S ((min k p : Nat) : Int) ∧ Hold.Hld W [⟨b0, 26, Y⟩, ⟨b1, 28, X⟩] wr) (fun _ _ _ _ _ i _ => m - (intOf i).toNat)
  case atStart => exact ⟨0, X0, by omega, rfl, by rw [HC0.out, Nat.zero_min]; rfl, HM.out⟩
  case round =>
    clear HM
    obtain ⟨k, X, hkm, rfl, hXc, hM⟩ := hrel
    have HM := Lib.hid hM
    have HXC := Lib.hid hXc
    have HX := Lib.hid (sgn_of hXc)
    clear hM hXc
    by_cases hlt : k < m
    · obtain ⟨bb, oo, rfl, hbb, hcc⟩ := HJ.out (by rw [HNL.out]; omega)
      obtain ⟨x, hx⟩ : ∃ x, ns[k]? = some x := ⟨_, List.getElem?_eq_getElem (by rw [HNL.out]; exact hlt)⟩
      have cx : wr.cell? ⟨bb, oo + k, none⟩ = some (.string x) := (HM.out.below.cell (p := ⟨bb, oo + k, none⟩) hbb).trans (hcc k x hx)
      clear hbb hcc hx
      by_cases h300 : x.size ≤ 300
      · have hd3 : decide (300 < (x.size : Int)) = false := by simp; omega
        by_cases hkp : k < p
        · have hmin : min k p = k := by omega
          have hXk : X = cellsS 2 H S (k : Int) := by rw [HXC.out, hmin]
          obtain ⟨X', hX', hXc'⟩ := named 2 H S ((k + 1 : Nat) : Int)
          obtain ⟨A, hA⟩ : ∃ A, A = tx (signature 2 H S.data.toList k x.data.toList) := ⟨_, rfl⟩
          obtain ⟨hAs, hA1⟩ := HSZ.out k x A hkp hA
          have h1A : 1 < A.size := by omega
          have r3 := R3.out k x A hkp h300 hA
          have r7 := R7.out k (by omega)
          have r7' := R7.out (k + 1) (by omega)
          have r2' := R2.out (k + 1)
          have e0 : Value.agg X.toArray = .agg #[.int .i64 2, .int .i64 (H : Int), .string S, .int .i64 (k : Int)] := (sgn_of hXk).agg
          rw [← e0, ← hX'.agg] at r3
          rw [← e0] at r7
          rw [← hX'.agg] at r7' r2'
          have RS := Lib.hid r3
          have RL := Lib.hid r7
          have RL' := Lib.hid r7'
          have RP' := Lib.hid r2'
          have RC := Lib.hid (R5.out k x A hkp h300 hA)
          have HX' := Lib.hid hX'
          have HXC' := Lib.hid hXc'
          have HAS := Lib.hid (show (A.size : Int) = (Lg : Int) by rw [hAs])
          have HA1 := Lib.hid (show IntKind.i64.wrap (A[1].toNat : Int) = (k : Int) by rw [hA1 h1A]; exact IntWalk.i64_in _ (by omega))
          have hw1 : IntKind.i64.wrap ((p : Int) - (k : Int) - 1) = (p : Int) - ((k + 1 : Nat) : Int) := by rw [IntWalk.i64_in _ (by omega)]; omega
          have HWS := Lib.hid hw1
          clear r3 r7 r7' r2' e0 hXk hX' hXc' hA hAs hA1 hmin hw1
          go_upto_region 14 with ((first
            | (with_reducible refine Hold.load HM.out 1 (cs := X) rfl rfl rfl rfl (Hold.Part.all _) (by rw [HX.out.len]; exact signRow) ?_)
            | (with_reducible refine (RS.out _ HM.out.below).mono ?_; rintro e w ⟨rfl, hb⟩; replace HM := Lib.hid (HM.out.next hb); clear hb)
            | (with_reducible refine Hold.alloc HM.out rfl rfl zeroS zero_sign ?_; clear HM; intro b2 w HM; simp only [List.nil_append, List.cons_append] at HM; replace HM := Lib.hid HM)
            | (with_reducible refine Hold.store HM.out 2 (v' := X') rfl rfl rfl rfl rfl (by rw [zero_len, HX'.out.len]; exact Nat.le_of_eq (Nat.zero_add _)) (Hold.lay_all (zero_len.trans HX'.out.len.symm)) (HX'.out.one) (by rw [HX'.out.len]; exact signRow) ?_; clear HM; intro w HM; simp only [List.set_cons_zero, List.set_cons_succ] at HM; replace HM := Lib.hid HM)))

          have hf := shape_cells HM.out 0 rfl HYC.out
          have hpz := HPZ.out
          have hu : IntKind.u64.wrap (H : Int) = (H : Int) := by rw [IntKind.wrap_u64]; omega
          have hH0 : (H : Int) < 0 ↔ False := ⟨fun h => by omega, fun h => h.elim⟩
          have hd4 : decide (p ≤ k) = false := by simp; omega
          go_upto_region 17 with (fail)
          clear hf hpz hu hH0 hd4 cx
          have h0A : 0 < A.size := by omega
          have h1A' : (1 : Int) < (Lg : Int) := by omega
          have hL2' : ¬ ((Lg : Int) < 2) := by omega
          have hA1 := HA1.out
          have hAs := HAS.out
          have hws := HWS.out
          have hns : (!(K.toList == K.toList)) = false := by simp
          refine Steady.region 42 (by kernel_rfl) (by kernel_rfl) (fun u => Hold.Hld _ _ u) HM.out.drew ?_
          simp only [List.take_succ_cons, List.take_zero, List.drop_succ_cons, List.drop_zero]
          refine Steady.take ?_ rfl (by intro u hu; go_simp; with_reducible rfl) ?_
          simp only [Act.put, List.setIfInBounds_toArray, List.set_cons_zero, List.set_cons_succ]
          refine Steady.take ?_ rfl (by intro u hu; go_simp; with_reducible rfl) ?_
          simp only [Act.put, List.setIfInBounds_toArray, List.set_cons_zero, List.set_cons_succ]
          refine Steady.take ?_ rfl (by intro u hu; go_simp; with_reducible rfl) ?_
          simp only [Act.put, List.setIfInBounds_toArray, List.set_cons_zero, List.set_cons_succ]
          refine Steady.take ?_ rfl (by intro u hu; go_simp; with_reducible rfl) ?_
          simp only [Act.put, List.setIfInBounds_toArray, List.set_cons_zero, List.set_cons_succ]
          refine Steady.take ?_ rfl (by intro u hu; go_simp; with_reducible rfl) ?_
          simp only [Act.put, List.setIfInBounds_toArray, List.set_cons_zero, List.set_cons_succ]
          refine Steady.take (.agg (Y).toArray) rfl (fun u hu => Hold.load_run hu 0 rfl rfl rfl (Hold.Part.all _) (by rw [HY.out.len]; exact shapeRow)) ?_
          simp only [Act.put, List.setIfInBounds_toArray, List.set_cons_zero, List.set_cons_succ]
          refine Steady.call _ _ _ rfl ?_ (Hold.kept R6'.out) ?_
          · intro u
            go_simp
          simp only [Act.put, List.setIfInBounds_toArray, List.set_cons_zero, List.set_cons_succ]
          refine Steady.take ?_ rfl (by intro u hu; go_simp; with_reducible rfl) ?_
          simp only [Act.put, List.setIfInBounds_toArray, List.set_cons_zero, List.set_cons_succ]
          refine Steady.take ?_ rfl (by intro u hu; go_simp; with_reducible rfl) ?_
          simp only [Act.put, List.setIfInBounds_toArray, List.set_cons_zero, List.set_cons_succ]
          refine Steady.take ?_ rfl (by intro u hu; go_simp; with_reducible rfl) ?_
          simp only [Act.put, List.setIfInBounds_toArray, List.set_cons_zero, List.set_cons_succ]
          refine Steady.take ?_ rfl (by intro u hu; go_simp; with_reducible rfl) ?_
          simp only [Act.put, List.setIfInBounds_toArray, List.set_cons_zero, List.set_cons_succ]
          refine Steady.take ?_ rfl (by intro u hu; go_simp; with_reducible rfl) ?_
          simp only [Act.put, List.setIfInBounds_toArray, List.set_cons_zero, List.set_cons_succ]
          refine Steady.take ?_ rfl (by intro u hu; go_simp; with_reducible rfl) ?_
          simp only [Act.put, List.setIfInBounds_toArray, List.set_cons_zero, List.set_cons_succ]
          refine Steady.take ?_ rfl (by intro u hu; go_simp; with_reducible rfl) ?_
          simp only [Act.put, List.setIfInBounds_toArray, List.set_cons_zero, List.set_cons_succ]
          refine Steady.take ?_ rfl (by intro u hu; go_simp; with_reducible rfl) ?_
          simp only [Act.put, List.setIfInBounds_toArray, List.set_cons_zero, List.set_cons_succ]
          refine Steady.take ?_ rfl (by intro u hu; go_simp; with_reducible rfl) ?_
          simp only [Act.put, List.setIfInBounds_toArray, List.set_cons_zero, List.set_cons_succ]
          refine Steady.take ?_ rfl (by intro u hu; go_simp; with_reducible rfl) ?_
          simp only [Act.put, List.setIfInBounds_toArray, List.set_cons_zero, List.set_cons_succ]
          refine Steady.take ?_ rfl (by intro u hu; go_simp; with_reducible rfl) ?_
          simp only [Act.put, List.setIfInBounds_toArray, List.set_cons_zero, List.set_cons_succ]
          refine Steady.take ?_ rfl (by intro u hu; go_simp; with_reducible rfl) ?_
          simp only [Act.put, List.setIfInBounds_toArray, List.set_cons_zero, List.set_cons_succ]
          refine Steady.take ?_ rfl (by intro u hu; go_simp; with_reducible rfl) ?_
          simp only [Act.put, List.setIfInBounds_toArray, List.set_cons_zero, List.set_cons_succ]
          refine Steady.take ?_ rfl (by intro u hu; go_simp; with_reducible rfl) ?_
          simp only [Act.put, List.setIfInBounds_toArray, List.set_cons_zero, List.set_cons_succ]
          refine Steady.take ?_ rfl (by intro u hu; go_simp; with_reducible rfl) ?_
          simp only [Act.put, List.setIfInBounds_toArray, List.set_cons_zero, List.set_cons_succ]
          refine Steady.take (.agg (Y).toArray) rfl (fun u hu => Hold.load_run hu 0 rfl rfl rfl (Hold.Part.all _) (by rw [HY.out.len]; exact shapeRow)) ?_
          simp only [Act.put, List.setIfInBounds_toArray, List.set_cons_zero, List.set_cons_succ]
          refine Steady.take ?_ rfl (by intro u hu; go_simp; with_reducible rfl) ?_
          simp only [Act.put, List.setIfInBounds_toArray, List.set_cons_zero, List.set_cons_succ]
          refine Steady.take ?_ rfl (by intro u hu; go_simp; with_reducible rfl) ?_
          simp only [Act.put, List.setIfInBounds_toArray, List.set_cons_zero, List.set_cons_succ]
          refine Steady.take ?_ rfl (by intro u hu; go_simp; with_reducible rfl) ?_
          simp only [Act.put, List.setIfInBounds_toArray, List.set_cons_zero, List.set_cons_succ]
          refine Steady.call _ _ _ rfl ?_ (kept_if RC.out) ?_
          · intro u
            go_simp
          simp only [Act.put, List.setIfInBounds_toArray, List.set_cons_zero, List.set_cons_succ]
          refine Steady.take ?_ rfl (by intro u hu; go_simp; with_reducible rfl) ?_
          simp only [Act.put, List.setIfInBounds_toArray, List.set_cons_zero, List.set_cons_succ]
          refine Steady.take ?_ rfl (by intro u hu; go_simp; with_reducible rfl) ?_
          simp only [Act.put, List.setIfInBounds_toArray, List.set_cons_zero, List.set_cons_succ]
          refine Steady.take ?_ rfl (by intro u hu; go_simp; with_reducible rfl) ?_
          simp only [Act.put, List.setIfInBounds_toArray, List.set_cons_zero, List.set_cons_succ]
          refine Steady.take (.agg (X').toArray) rfl (fun u hu => Hold.load_run hu 2 rfl rfl rfl (Hold.Part.all _) (by rw [HX'.out.len]; exact signRow)) ?_
          simp only [Act.put, List.setIfInBounds_toArray, List.set_cons_zero, List.set_cons_succ]
          refine Steady.call _ _ _ rfl ?_ (Hold.kept RL'.out) ?_
          · intro u
            go_simp
          simp only [Act.put, List.setIfInBounds_toArray, List.set_cons_zero, List.set_cons_succ]
          refine Steady.take (.agg (X).toArray) rfl (fun u hu => Hold.load_run hu 1 rfl rfl rfl (Hold.Part.all _) (by rw [HX.out.len]; exact signRow)) ?_
          simp only [Act.put, List.setIfInBounds_toArray, List.set_cons_zero, List.set_cons_succ]
          refine Steady.call _ _ _ rfl ?_ (Hold.kept RL.out) ?_
          · intro u
            go_simp
          simp only [Act.put, List.setIfInBounds_toArray, List.set_cons_zero, List.set_cons_succ]
          refine Steady.take ?_ rfl (by intro u hu; go_simp; with_reducible rfl) ?_
          simp only [Act.put, List.setIfInBounds_toArray, List.set_cons_zero, List.set_cons_succ]
          refine Steady.take ?_ rfl (by intro u hu; go_simp; with_reducible rfl) ?_
          simp only [Act.put, List.setIfInBounds_toArray, List.set_cons_zero, List.set_cons_succ]
          refine Steady.take ?_ rfl (by intro u hu; go_simp; with_reducible rfl) ?_
          simp only [Act.put, List.setIfInBounds_toArray, List.set_cons_zero, List.set_cons_succ]
          refine Steady.take ?_ rfl (by intro u hu; go_simp; with_reducible rfl) ?_
          simp only [Act.put, List.setIfInBounds_toArray, List.set_cons_zero, List.set_cons_succ]
          refine Steady.take (.agg (X').toArray) rfl (fun u hu => Hold.load_run hu 2 rfl rfl rfl (Hold.Part.all _) (by rw [HX'.out.len]; exact signRow)) ?_
          simp only [Act.put, List.setIfInBounds_toArray, List.set_cons_zero, List.set_cons_succ]
          refine Steady.call _ _ _ rfl ?_ (kept_if RP'.out) ?_
          · intro u
            go_simp
          simp only [Act.put, List.setIfInBounds_toArray, List.set_cons_zero, List.set_cons_succ]
          refine Steady.take ?_ rfl (by intro u hu; go_simp; with_reducible rfl) ?_
          simp only [Act.put, List.setIfInBounds_toArray, List.set_cons_zero, List.set_cons_succ]
          refine Steady.take ?_ rfl (by intro u hu; go_simp; with_reducible rfl) ?_
          simp only [Act.put, List.setIfInBounds_toArray, List.set_cons_zero, List.set_cons_succ]
          refine Steady.nil ?_
          clear HM
          intro w HM
          replace HM := Lib.hid HM

          clear hA1 hws hL2'
          go_upto_region 20 with ((first
            | (with_reducible refine Hold.load HM.out 2 (cs := X') rfl rfl rfl rfl (Hold.Part.all _) (by rw [HX'.out.len]; exact signRow) ?_)
            | (with_reducible refine Hold.store HM.out 1 (v' := X') rfl rfl rfl rfl rfl (by rw [HX.out.len, HX'.out.len]; exact Nat.le_of_eq (Nat.zero_add _)) (Hold.lay_all (HX.out.len.trans HX'.out.len.symm)) (HX'.out.one) (by rw [HX'.out.len]; exact signRow) ?_; clear HM; intro w HM; simp only [List.set_cons_zero, List.set_cons_succ] at HM; replace HM := Lib.hid HM)))

          clear hns
          go_wp2
          go_roundw
          case rel =>
            exact ⟨k + 1, X', by omega, by go_num, by rw [HXC'.out, Nat.min_eq_left (by omega)], Hold.Hld.front (m := [_, _]) HM.out⟩
          case measure => simp [intOf]; omega
        · have hmin : min k p = p := by omega
          have hXk : X = cellsS 2 H S (p : Int) := by rw [HXC.out, hmin]
          have e0 : Value.agg X.toArray = .agg #[.int .i64 2, .int .i64 (H : Int), .string S, .int .i64 (p : Int)] := (sgn_of hXk).agg
          have r4 := R4.out x
          rw [← e0] at r4
          have RS := Lib.hid r4
          have HXK := Lib.hid hXk
          clear r4 e0 hXk hmin
          go_upto_region 14 with ((first
            | (with_reducible refine Hold.load HM.out 1 (cs := X) rfl rfl rfl rfl (Hold.Part.all _) (by rw [HX.out.len]; exact signRow) ?_)
            | (with_reducible refine (RS.out _).mono ?_; rintro e w ⟨rfl, hb⟩; replace HM := Lib.hid (HM.out.next hb); clear hb)
            | (with_reducible refine Hold.alloc HM.out rfl rfl zeroS zero_sign ?_; clear HM; intro b2 w HM; simp only [List.nil_append, List.cons_append] at HM; replace HM := Lib.hid HM)
            | (with_reducible refine Hold.store HM.out 2 (v' := X) rfl rfl rfl rfl rfl (by rw [zero_len, HX.out.len]; exact Nat.le_of_eq (Nat.zero_add _)) (Hold.lay_all (zero_len.trans HX.out.len.symm)) (HX.out.one) (by rw [HX.out.len]; exact signRow) ?_; clear HM; intro w HM; simp only [List.set_cons_zero, List.set_cons_succ] at HM; replace HM := Lib.hid HM)))

          have hf := And.intro (shape_cells HM.out 0 rfl HYC.out) (And.intro (sign_cells HM.out 1 rfl HXK.out) (sign_cells HM.out 2 rfl HXK.out))
          have hpz := HPZ.out
          have hu : IntKind.u64.wrap (H : Int) = (H : Int) := by rw [IntKind.wrap_u64]; omega
          have hH0 : (H : Int) < 0 ↔ False := ⟨fun h => by omega, fun h => h.elim⟩
          have hd4 : decide (p ≤ k) = true := by simp; omega
          go_upto_region 20 with (fail)
          clear hf hpz hu hH0 hd4 cx
          go_wp2
          go_roundw
          case rel =>
            exact ⟨k + 1, X, by omega, by go_num, by rw [HXK.out, Nat.min_eq_right (by omega)], Hold.Hld.front (m := [_, _]) HM.out⟩
          case measure => simp [intOf]; omega
      · have hd3 : decide (300 < (x.size : Int)) = true := by simp; omega
        go_wp2_with fail
        refine (RA.out _ HM.out.below).mono ?_
        rintro ev wd ⟨rfl, hbd⟩
        have HBD := Lib.hid (HM.out.below.trans (hbd.mono HM.out.below.size))
        clear hbd
        go_wp2
        go_ret
        exact ⟨rfl, HBD.out⟩
    · obtain rfl : k = m := by omega
      go_wp2_with fail
      refine (RA.out _ HM.out.below).mono ?_
      rintro ev wd ⟨rfl, hbd⟩
      have HBD := Lib.hid (HM.out.below.trans (hbd.mono HM.out.below.size))
      clear hbd
      go_wp2
      go_ret
      exact ⟨rfl, HBD.out⟩

theorem walk (h : Int) (seed : ByteArray) (a : Option Addr) (m cap : Nat) (ns : List ByteArray) (w : World) (_ : seed.size ≤ 140737488351232) (hj : TextsR w a ns) (hnl : ns.length = m) (hk : Consts w) :
    Calls Tryd.prog 3 #[.int .i64 h, .string seed, .slice a m cap] w
      fun e w' => e = .returned (.bool true) ∧ Below w.heap.size w w' := by
  by_cases hg : seed.size ≤ 300 ∧ m ≤ 12
  · exact law_small h seed a m cap ns w hg.1 hg.2 hj hnl hk
  · exact law_great h seed a m cap w hg hk
theorem strs_at {w : World} {a : Addr} {zs : List ByteArray} (h : ∀ i, i < zs.length → w.cell? (a.add i) = some (.string (zs.getD i ByteArray.empty))) (hp : 0 < zs.length) :
    ∃ b off, a = ⟨b, off, none⟩ ∧ b < w.heap.size ∧ ∀ j, j < zs.length → w.cell? ⟨b, off + j, none⟩ = some (.string (zs.getD j ByteArray.empty)) := by
  obtain ⟨b, off, spot⟩ := a
  have hspot : spot = none := by simpa [Addr.add] using World.cell?_spot (h 0 hp)
  subst hspot
  have hc : ∀ j, j < zs.length → w.cell? ⟨b, off + j, none⟩ = some (.string (zs.getD j ByteArray.empty)) := fun j hj => by rw [← Go.WideShapes.add_plain]; exact h j hj
  refine ⟨b, off, rfl, ?_, hc⟩
  have h0 := hc 0 hp
  rcases Nat.lt_or_ge b w.heap.size with h' | h'
  · exact h'
  · simp [World.cell?, Array.getElem?_eq_none h'] at h0

theorem laidOut : laidOutB Tryd.prog = true := by kernel_rfl

set_option maxRecDepth 100000 in
theorem lifted (os : Os) (started : os.Started) (H : Type) (enc : TypeId × Value → H) :
    ReturnsInHanded {} Tryd.checked os 3 .any (fun w args => (Rows.stampSignsSpec.pre enc Tryd.prog Tryd.f3 [] false w args ∧ laidMetH Tryd.prog laidL w) ∧ sizedMet enc Tryd.prog Tryd.f3 (OpenSpec.ofChange Rows.stampSignsSpec) false w args)
      (Rows.stampSignsSpec.post enc Tryd.prog Tryd.f3 false true false false) := by
  refine returnsInHanded_of_change_and (C := Tryd.checked) (X := fun w _ => laidMetH Tryd.prog laidL w) (fun _ _ _ hh h => h.of_heap hh) own started (by kernel_rfl) Tryd.func3
    (ChangeSpec.witness_shaped (enc := enc) (C := Tryd.checked) (os := os) (X := fun w _ => laidMetH Tryd.prog laidL w) false (World.doorLaid Tryd.prog 400 os) #[.int .i64 0, .string ByteArray.empty, .slice none 0 0] 8 rfl (World.shaped_of_RefB (by kernel_rfl) (by kernel_rfl)) (by kernel_rfl) (by kernel_rfl) (by kernel_rfl) (door_met os _)) ?_
  intro W base args ds gs before hval0 hW _ hsz0 hL _
  have hval : ∀ (j : Nat) t v, Tryd.f3.params[j]? = some t → args[j]? = some v → Value.okWide Tryd.prog W .any base t v := hval0
  have hsz : (DataW.weightsEach Tryd.prog (Tryd.f3.params.toList ++ Rows.stampSignsSpec.plain.varTypes Tryd.prog) (ds ++ gs)).all (· ≤ reachBytes) = true := hsz0
  clear hsz0
  have hW' := hW
  obtain ⟨p, q, hA0, hV, rfl, hfz, hnd⟩ := hW
  have hA : DataW.TrodAll enc Tryd.prog W 0 (fun _ => true) true Tryd.f3.params.toList args.toList ds p := hA0
  rw [Tryd.params3] at hA hval hsz
  obtain ⟨v0, vs0, d0, ds0, p0, q0, hargs, rfl, rfl, h0, r0⟩ := trodAll_cons hA
  obtain ⟨v1, vs1, d1, ds1, p1, q1, rfl, rfl, rfl, h1, r1⟩ := trodAll_cons r0
  obtain ⟨v2, vs2, d2, ds2, p2, q2, rfl, rfl, rfl, h2, r2⟩ := trodAll_cons r1
  obtain ⟨rfl, rfl, rfl⟩ := trodAll_nil r2
  obtain rfl : args = #[v0, v1, v2] := by cases args; simp_all
  obtain ⟨rfl, rfl⟩ := trodVars_none hV
  obtain ⟨n0, rfl, rfl, rfl, w0⟩ := open_int Tryd.underlying3 (hval 0 3 v0 rfl rfl) h0
  obtain ⟨s1, rfl, rfl, rfl, w1⟩ := open_string Tryd.underlying9 (hval 1 9 v1 rfl rfl) h1
  have z1 := sized_string hsz (j := 1) (t := 9) (bytes := s1.data.toList) rfl rfl
  have k2 := h2
  have lt2 : ∀ x ∈ p2, x.block < W.heap.size := by obtain ⟨m, hm⟩ := k2; exact DataW.trod_lt m _ _ _ hm
  obtain ⟨a2, len2, cap2, rfl⟩ := okWide_slice Tryd.underlying22 (hval 2 22 v2 rfl rfl)
  obtain ⟨s2, w2, x2⟩ : ∃ ss, TextsR W a2 ss ∧ ss.length = len2 := by
    obtain ⟨fuel, hf⟩ := h2
    rcases open_strings Tryd.underlying22 Tryd.underlying9 (by kernel_rfl) hf with ⟨hcs, _⟩ | ⟨x, l, c, zs, hcs, _, hl, hm, hz, _, hcell, _⟩
    · simp [Value.cells] at hcs
      obtain ⟨rfl, rfl, rfl⟩ := hcs
      exact ⟨[], fun h => absurd rfl h, rfl⟩
    · simp [Value.cells] at hcs
      obtain ⟨rfl, rfl, rfl⟩ := hcs
      unfold maxLen at hm
      simp at hz
      refine ⟨zs.take len2, fun h0 => ?_, by rw [List.length_take]; omega⟩
      rw [List.length_take] at h0
      obtain ⟨b, o, rfl, hb, hc⟩ := strs_at hcell (by omega)
      refine ⟨b, o, rfl, hb, fun i y hy => ?_⟩
      rw [List.getElem?_take] at hy
      split at hy
      · have hi : i < zs.length := (List.getElem?_eq_some_iff.1 hy).1
        rw [hc i hi]
        simp [List.getD, hy]
      · cases hy
  have hcl := of_laid hL
  clear hA0 hval0
  refine (walk n0 s1 a2 len2 cap2 s2 W z1 w2 x2 hcl).mono fun e W' ⟨he, bel⟩ => ?_
  subst he
  exact ⟨_, rfl, _, _, _, [], _, [], hW', trodAll_mk1 (shut_bool Tryd.underlying4 _), (trodAll_cons_mk (shut_int Tryd.underlying3 w0) (trodAll_cons_mk (shut_string Tryd.underlying9 w1) (trodAll_cons_mk (Below.trod laidOut (by kernel_rfl) (of_decide_eq_true (by kernel_rfl)) k2 bel lt2) trodAll_mk0))), rfl, bel.frame _, fun h => by cases h⟩

theorem over : Rows.StampSignsSaid :=
  OpenClaim.holds_of_wide 3 Tryd.f3 rfl rfl rfl rfl rfl rfl rfl ⟨rfl, rfl, rfl, rfl, rfl⟩ rfl rfl rfl rfl rfl (by kernel_rfl) Tryd.func3 (by kernel_rfl)
    (of_decide_eq_true (by kernel_rfl)) (by unfold Func.isWrapper; first | (rw [if_pos (by decide +kernel)]; kernel_rfl) | (rw [if_neg (by decide +kernel)]; exact ⟨rfl, rfl⟩))
    (fun os started H enc _ => lifted os started H enc)

theorem proved : Rows.StampSignsCardSaid :=
  Claim7.holds_tied_plain_at .later [] [.data] true Rows.stampSignsCard.stood.harness false
    over (fun _ h => by cases h) (by kernel_rfl) (fun _ h => by cases h) stampSigns_row_tie rfl ⟨rfl, rfl⟩ (by kernel_rfl) rfl
    (fun f fn hf hfn => by
      obtain rfl : f = 3 := Option.some.inj ((show Tryd.prog.funcNamed "murmur/murmurlaw09.StampSigns" = some 3 by kernel_rfl).symm.trans hf) |>.symm
      obtain rfl : fn = Tryd.f3 := (Option.some.inj (Tryd.func3.symm.trans hfn)).symm
      exact ⟨by kernel_rfl, fun j t ht => by
        rw [Tryd.params3] at ht
        have hm : t ∈ [3, 9, 22] := by simpa using Array.mem_of_getElem? ht
        have hall : ([3, 9, 22].all fun u => !Tryd.prog.wantsStandIn u) = true := by kernel_rfl
        exact (show Tryd.prog.wantsStandIn t = false by simpa using List.all_eq_true.1 hall t hm)⟩)
    (by kernel_rfl)
#print axioms proved
end Go.Proofs.YtkchbilkmoemaaaDoor.LawSSigns
