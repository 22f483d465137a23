/-
  Pads of package pad (the closure that makes them, Of, Reveal) are what the plain mathematics of the text Pad says; all memory that was there is left as it was. Conditions: short texts, numbers of 64 bits, the listed tables.
-/
import Derived.Test.YtolmfimpaofefaaGreatDoorPadS
import Derived.Test.YtolmfimpaofefaaGreatDoorMCha
namespace Go.Proofs.YtolmfimpaofefaaGreatDoor.Pad
open Go.RowKit Mur Prt Lanes Tap Bkl Bkm Rec Cel Bkr Bkb
set_option maxRecDepth 100000
set_option linter.unusedSimpArgs false

theorem tx_back (l : List UInt8) : (tx l).data.toList = l := rfl
theorem of_is (sh : List UInt8) (r n : Int) (k : Nat) (h : long n = k) : tx (Pad.of sh r n) = ⟨(Cha.streamT (Cha.stateZ (tx (padKey sh)).data.toList (tx (nonce r)).data.toList) k).toArray⟩ := by
  unfold Pad.of
  rw [h, tx_back, tx_back]

set_option maxHeartbeats 1600000 in
theorem maker1_any (K X : ByteArray) (sh : List UInt8) (r n : Int) (b : Nat) (w : World) (hK : K = tx (padKey sh)) (hX : X = tx (Pad.of sh r n)) (hb : b < w.heap.size) (hc : w.cell? ⟨b, 0, none⟩ = some (.string K)) (rl : -9223372036854775808 ≤ r) (rh : r ≤ 9223372036854775807) (nl : -9223372036854775808 ≤ n) (nh : n ≤ 9223372036854775807) :
    Calls Tryz.prog 67 #[.int .i64 r, .int .i64 n, .pointer (some ⟨b, 0, none⟩)] w fun e w' => e = .returned (.string X) ∧ Below w.heap.size w w' := by
  obtain ⟨w0, hw0⟩ : ∃ w0, w0 = w := ⟨w, rfl⟩
  subst hw0
  obtain ⟨m, hm⟩ : ∃ m : Nat, max r 0 = (m : Int) := ⟨(max r 0).toNat, by omega⟩
  obtain ⟨k, hk⟩ : ∃ k : Nat, min (max n 0) 6000 = (k : Int) := ⟨(min (max n 0) 6000).toNat, by omega⟩
  have hml : m < 18446744073709551616 := by omega
  have hkl : k ≤ 6000 := by omega
  have hlk : long n = k := by unfold long; omega
  have hrm : (max 0 r).toNat = m := by omega
  obtain ⟨N, hN⟩ : ∃ N, N = tx (nonce r) := ⟨_, rfl⟩
  have hKs : K.size = 32 := by rw [hK, tx_long, padKey_length]
  have hNs : N.size = 12 := by rw [hN, tx_long, nonce_length]
  have hwr : IntKind.u64.wrap (m : Int) = (m : Int) := by rw [IntKind.wrap_u64]; omega
  have RH := Lib.hid (fun u => show Calls Tryz.prog 63 #[.int .u64 (m : Int), .int .i64 12] u fun e w' => e = .returned (.string N) ∧ Below u.heap.size u w' from by
    rw [hN, show tx (nonce r) = ⟨(Lanes.high m (widthOf 12)).toArray⟩ from by rw [nonce, hrm]; rfl]
    exact high_any m 12 u hml (by decide) (by decide))
  have RS := Lib.hid (fun u => show Calls Tryz.prog 68 #[.string K, .string N, .int .i64 (k : Int)] u fun e w' => e = .returned (.tuple #[.string X, .int .i64 0]) ∧ Below u.heap.size u w' from Cha.stream_some K N X k u hKs hNs hkl (by rw [hX, hK, hN]; exact of_is _ r n k hlk))
  have HM := Lib.hid (Hold.Hld.start w0)
  have HC := Lib.hid (And.intro hb hc)
  clear hK hX rl rh nl nh hml hkl hlk hrm hN hKs hNs hb hc
  go_enter Tryz.func67, Tryz.ntmps67
  go_wp2_with ((first
    | ((with_reducible refine (RH.out _).mono ?_); rintro e w ⟨rfl, hb⟩; replace HM := Lib.hid (HM.out.next hb); clear hb; have hcw := (HM.out.below.cell (p := ⟨b, 0, none⟩) HC.out.1).trans HC.out.2)
    | ((with_reducible refine (RS.out _).mono ?_); rintro e w ⟨rfl, hb⟩; clear hcw; replace HM := Lib.hid (HM.out.next hb); clear hb)))
  go_ret
  exact ⟨rfl, HM.out.below⟩

set_option maxHeartbeats 1600000 in
theorem maker_any (sh K : ByteArray) (w : World) (hK : K = tx (padKey sh.data.toList)) (hs : sh.size ≤ 1000) (hl : Laid w) :
    Calls Tryz.prog 40 #[.string sh] w fun e w' => ∃ b, e = .returned (.func (.func 67) #[] #[.pointer (some ⟨b, 0, none⟩)]) ∧ b < w'.heap.size ∧ w'.cell? ⟨b, 0, none⟩ = some (.string K) ∧ Below w.heap.size w w' := by
  obtain ⟨w0, hw0⟩ : ∃ w0, w0 = w := ⟨w, rfl⟩
  subst hw0
  have RD := Lib.hid (fun (q : Nat) (u : World) (hq : q < u.heap.size) (h0 : u.cell? ⟨q, 0, none⟩ = some (.string ⟨#[112, 97, 100]⟩)) (hu : Laid u) => derive_own sh [⟨#[112, 97, 100]⟩] 1 K q u hs rfl (by decide) (by intro s hs; obtain rfl := List.mem_singleton.1 hs; decide) hq (fun i hi => by match i, hi with | 0, _ => exact h0) (by rw [hK]; rfl) hu)
  have HM := Lib.hid (Hold.Hld.start w0)
  have HL := Lib.hid hl
  have hmf : ∀ (fn : Fn) (first cap : Array Value) (w : World), (Instr.makeFunc fn first cap).run Tryz.prog w = .ok (.func fn first cap) w := fun _ _ _ _ => rfl
  clear hK hs hl
  go_enter Tryz.func40, Tryz.ntmps40
  go_wp2_with ((first
    | ((refine (RD.out w0.heap.size (w0.alloc (.cells #[.string ⟨#[112, 97, 100]⟩] 9)) (by simp) (by simp) (HL.out.below (HM.out.add 9 [.string ⟨#[112, 97, 100]⟩]).below)).mono ?_); rintro e w2 ⟨rfl, hb⟩; replace HM := Lib.hid ((HM.out.add 9 [.string ⟨#[112, 97, 100]⟩]).next hb); clear hb)))
  go_ret
  exact ⟨_, rfl, by simp, by simp, (HM.out.add 9 [.string K]).below⟩
theorem enters_maker1 : Enters Tryz.prog 67 := enters_of Tryz.func67 (by kernel_rfl) rfl

set_option maxHeartbeats 1600000 in
theorem of_any (sh X : ByteArray) (r n : Int) (w : World) (hX : X = tx (Pad.of sh.data.toList r n)) (hs : sh.size ≤ 1000) (rl : -9223372036854775808 ≤ r) (rh : r ≤ 9223372036854775807) (nl : -9223372036854775808 ≤ n) (nh : n ≤ 9223372036854775807) (hl : Laid w) :
    Calls Tryz.prog 16 #[.string sh, .int .i64 r, .int .i64 n] w fun e w' => e = .returned (.string X) ∧ Below w.heap.size w w' := by
  obtain ⟨w0, hw0⟩ : ∃ w0, w0 = w := ⟨w, rfl⟩
  subst hw0
  obtain ⟨K, hK⟩ : ∃ K, K = tx (padKey sh.data.toList) := ⟨_, rfl⟩
  have R1 := Lib.hid (maker_any sh K w0 hK hs hl)
  have R2 := Lib.hid (fun b u (hb : b < u.heap.size) (hc : u.cell? ⟨b, 0, none⟩ = some (.string K)) => maker1_any K X sh.data.toList r n b u hK hX hb hc rl rh nl nh)
  have HM := Lib.hid (Hold.Hld.start w0)
  clear hX hs rl rh nl nh hl hK
  go_enter Tryz.func16, Tryz.ntmps16
  go_wp2_with fail
  refine R1.out.mono ?_
  rintro e w1 ⟨b, rfl, hbs, hbc, hb1⟩
  have he : ∀ u, (callFunc 67 #[.int .i64 r, .int .i64 n, .pointer (some ⟨b, 0, none⟩)]).run Tryz.prog u = .ok (.enter 67 #[.int .i64 r, .int .i64 n, .pointer (some ⟨b, 0, none⟩)]) u := fun u => enters_maker1 _ u
  have R3 := Lib.hid (R2.out b w1 hbs hbc)
  replace HM := Lib.hid (HM.out.next hb1)
  clear hbs hbc hb1
  go_wp2_with fail
  refine R3.out.mono ?_
  rintro e w2 ⟨rfl, hb2⟩
  replace HM := Lib.hid (HM.out.next hb2)
  clear hb2
  go_wp2
  go_ret
  exact ⟨rfl, HM.out.below⟩

set_option maxHeartbeats 1600000 in
theorem reveal_any (s p X : ByteArray) (E r n : Int) (w : World) (hX : X = if sE s p = 0 then tx (Pad.of (sT s p).data.toList r n) else ⟨#[]⟩) (hE : E = sE s p) (rl : -9223372036854775808 ≤ r) (rh : r ≤ 9223372036854775807) (nl : -9223372036854775808 ≤ n) (nh : n ≤ 9223372036854775807) (hl : Laid w) :
    Calls Tryz.prog 12 #[.string s, .string p, .int .i64 r, .int .i64 n] w fun e w' => e = .returned (.tuple #[.string X, .int .i64 E]) ∧ Below w.heap.size w w' := by
  obtain ⟨w0, hw0⟩ : ∃ w0, w0 = w := ⟨w, rfl⟩
  subst hw0
  obtain ⟨T, hT⟩ : ∃ T, T = sT s p := ⟨_, rfl⟩
  have hTs : T.size ≤ 1000 := by have := sT_size s p; rw [hT]; omega
  have R1 := Lib.hid (fun u => show Calls Tryz.prog 37 #[.string s, .string p] u fun r w' => r = .returned (.tuple #[.string T, .int .i64 E]) ∧ Below u.heap.size u w' from by rw [hT, hE, ← sharedV_eq]; exact LadC.shared_any _ _ u)
  have HM := Lib.hid (Hold.Hld.start w0)
  by_cases he : E = 0
  · subst he
    have hX2 : X = tx (Pad.of T.data.toList r n) := by rw [hX, if_pos hE.symm, hT]
    have R2 := Lib.hid (fun u (hu : Below w0.heap.size w0 u) => of_any T X r n u hX2 hTs rl rh nl nh (hl.below hu))
    clear hX hE rl rh nl nh hT hTs hX2
    go_enter Tryz.func12, Tryz.ntmps12
    go_wp2_with ((first
      | ((with_reducible refine (R1.out _).mono ?_); rintro e w ⟨rfl, hb⟩; replace HM := Lib.hid (HM.out.next hb); clear hb)
      | ((with_reducible refine (R2.out _ HM.out.below).mono ?_); rintro e w ⟨rfl, hb⟩; replace HM := Lib.hid (HM.out.next hb); clear hb)))
    go_ret2
    exact ⟨rfl, HM.out.below⟩
  · obtain rfl : X = ⟨#[]⟩ := by rw [hX, if_neg (by rw [← hE]; exact he)]
    have hq : ((E : Int) != 0) = true := by simpa using he
    have hq2 : ((E : Int) == 0) = false := by simpa using he
    clear hX hE rl rh nl nh hT hTs he
    go_enter Tryz.func12, Tryz.ntmps12
    go_wp2_with ((first
      | ((with_reducible refine (R1.out _).mono ?_); rintro e w ⟨rfl, hb⟩; replace HM := Lib.hid (HM.out.next hb); clear hb)))
    go_ret2
    exact ⟨rfl, HM.out.below⟩
end Go.Proofs.YtolmfimpaofefaaGreatDoor.Pad
