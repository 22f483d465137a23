/-
  The document's own answers for what two share and for pads of it (Shared, Of, Reveal) are what the plain mathematics of the text Pad says; all memory that was there is left as it was. Conditions: short texts, numbers of 64 bits.
-/
import Derived.Test.YtolmfimpaofefaaGreatDoorRPad
import Derived.Test.YtolmfimpaofefaaGreatDoorMRef
import Derived.Test.YtolmfimpaofefaaGreatDoorMRCha
import Derived.Test.YtolmfimpaofefaaGreatDoorMRLad
namespace Go.Proofs.YtolmfimpaofefaaGreatDoor.RPad
open Go.RowKit Mur Prt Lanes Tap Bkl Bkm Rec Cel Bkr Bkb Pad
set_option maxRecDepth 100000
set_option linter.unusedSimpArgs false

theorem tx_back (l : List UInt8) : (tx l).data.toList = l := rfl
theorem of_is (sh : List UInt8) (r n : Int) (k : Nat) (h : long n = k) : tx (of sh r n) = Cha.streamB (tx (padKey sh)) (tx (nonce r)) k := by
  unfold of Cha.streamB
  rw [h, tx_back, tx_back]

set_option maxHeartbeats 1600000 in
theorem shared_any (A : Nat → Prop) (b : Bk) (v : List Value) (c s e : Int) (X : ByteArray) (w : World) (hX : X = shared b.seed c s e) (h : BkR w b v A) (hro : b.seed.length ≤ 1000) (cl : -9223372036854775808 ≤ c) (ch : c ≤ 9223372036854775807) (sl : -9223372036854775808 ≤ s) (sh : s ≤ 9223372036854775807) (el : -9223372036854775808 ≤ e) (eh : e ≤ 9223372036854775807) :
    Calls Tryz.prog 19 #[.agg v.toArray, .int .i64 c, .int .i64 s, .int .i64 e] w fun r w' => r = .returned (.string X) ∧ Below w.heap.size w w' := by
  obtain ⟨w0, hw0⟩ : ∃ w0, w0 = w := ⟨w, rfl⟩
  subst hw0
  obtain ⟨SV, hSV⟩ : ∃ D, D = tx (server b.seed s e) := ⟨_, rfl⟩
  obtain ⟨SC, hSC⟩ : ∃ D, D = tx (secret b.seed c s e) := ⟨_, rfl⟩
  obtain ⟨PB, hPB⟩ : ∃ D, D = pub b.seed s e := ⟨_, rfl⟩
  have R1 := Lib.hid (fun u (hu : Below w0.heap.size w0 u) => server_any A b v s e SV u hSV (h.below hu) hro sl sh el eh)
  have R2 := Lib.hid (fun u => show Calls Tryz.prog 43 #[.string SV] u fun r w' => r = .returned (.tuple #[.string PB, .int .i64 0]) ∧ Below u.heap.size u w' from by rw [hSV, hPB, ← public_is]; exact RefLad.public_ref _ u)
  have R3 := Lib.hid (fun u (hu : Below w0.heap.size w0 u) => secret_any A b v c s e SC u hSC (h.below hu) hro cl ch sl sh el eh)
  obtain ⟨E, hE⟩ : ∃ E, E = sE SC PB := ⟨_, rfl⟩
  have hX2 : X = sT SC PB := by rw [hX, hSC, hPB]; rfl
  have R4 := Lib.hid (fun u => show Calls Tryz.prog 38 #[.string SC, .string PB] u fun r w' => r = .returned (.tuple #[.string X, .int .i64 E]) ∧ Below u.heap.size u w' from by rw [hX2, hE, ← sharedV_eq]; exact RefLad.shared_ref _ _ u)
  have HLEN := Lib.hid h.len
  have HM := Lib.hid (Hold.Hld.start w0)
  clear hX h hro cl ch sl sh el eh hSV hSC hPB hE hX2
  go_enter Tryz.func19, Tryz.ntmps19
  go_wp2_with ((first
    | ((with_reducible refine Hold.box HM.out rfl rfl rfl ?_); clear HM; intro b1 w HM; simp only [List.nil_append] at HM; replace HM := Lib.hid HM)
    | (with_reducible refine Hold.load HM.out 0 (cs := v) rfl rfl rfl rfl (Hold.Part.all _) (bkRowOf HLEN.out) ?_)
    | ((with_reducible refine (R1.out _ HM.out.below).mono ?_); rintro e w ⟨rfl, hb⟩; replace HM := Lib.hid (HM.out.next hb); clear hb)
    | ((with_reducible refine (R2.out _).mono ?_); rintro e w ⟨rfl, hb⟩; replace HM := Lib.hid (HM.out.next hb); clear hb)
    | ((with_reducible refine (R3.out _ HM.out.below).mono ?_); rintro e w ⟨rfl, hb⟩; replace HM := Lib.hid (HM.out.next hb); clear hb)
    | ((with_reducible refine (R4.out _).mono ?_); rintro e w ⟨rfl, hb⟩; replace HM := Lib.hid (HM.out.next hb); clear hb)))
  go_ret
  exact ⟨rfl, HM.out.below⟩

set_option maxHeartbeats 1600000 in
theorem of_any (sh X : ByteArray) (r n : Int) (w : World) (hX : X = tx (of sh.data.toList r n)) (hs : sh.size ≤ 1000) (rl : -9223372036854775808 ≤ r) (rh : r ≤ 9223372036854775807) (nl : -9223372036854775808 ≤ n) (nh : n ≤ 9223372036854775807) :
    Calls Tryz.prog 17 #[.string sh, .int .i64 r, .int .i64 n] w fun e w' => e = .returned (.string X) ∧ Below w.heap.size w w' := by
  obtain ⟨w0, hw0⟩ : ∃ w0, w0 = w := ⟨w, rfl⟩
  subst hw0
  obtain ⟨m, hm⟩ : ∃ m : Nat, max 0 r = (m : Int) := ⟨(max 0 r).toNat, by omega⟩
  obtain ⟨k, hk⟩ : ∃ k : Nat, max 0 (min n 6000) = (k : Int) := ⟨(max 0 (min n 6000)).toNat, by omega⟩
  have hml : m < 18446744073709551616 := by omega
  have hkl : k ≤ 6000 := by omega
  have hlk : long n = k := by unfold long; omega
  have hrm : (max 0 r).toNat = m := by omega
  obtain ⟨K, hK⟩ : ∃ K, K = tx (padKey sh.data.toList) := ⟨_, rfl⟩
  obtain ⟨N, hN⟩ : ∃ N, N = tx (nonce r) := ⟨_, rfl⟩
  have hKs : K.size = 32 := by rw [hK, tx_long, padKey_length]
  have hNs : N.size = 12 := by rw [hN, tx_long, nonce_length]
  have hwr : IntKind.u64.wrap (m : Int) = (m : Int) := by rw [IntKind.wrap_u64]; omega
  have RD := Lib.hid (fun (q : Nat) (u : World) (hq : q < u.heap.size) (h0 : u.cell? ⟨q, 0, none⟩ = some (.string ⟨#[112, 97, 100]⟩)) => derive_ref sh [⟨#[112, 97, 100]⟩] 1 K q u hs rfl (by decide) (by intro s hs; obtain rfl := List.mem_singleton.1 hs; decide) hq (fun i hi => by match i, hi with | 0, _ => exact h0) (by rw [hK]; rfl))
  have RH := Lib.hid (fun u => show Calls Tryz.prog 42 #[.int .u64 (m : Int), .int .i64 12] u fun e w' => e = .returned (.string N) ∧ Below u.heap.size u w' from by
    rw [hN, show tx (nonce r) = ⟨(Lanes.high m (widthOf 12)).toArray⟩ from by rw [nonce, hrm]; rfl]
    exact RefOne.high_any m 12 u hml (by decide) (by decide))
  have RS := Lib.hid (fun u => show Calls Tryz.prog 41 #[.string K, .string N, .int .i64 (k : Int)] u fun e w' => e = .returned (.tuple #[.string X, .int .i64 0]) ∧ Below u.heap.size u w' from RefCha.stream_some K N X k u hKs hNs hkl (by rw [hX, hK, hN]; exact of_is _ r n k hlk))
  have HM := Lib.hid (Hold.Hld.start w0)
  clear hX hs rl rh nl nh hml hkl hlk hrm hK hN hKs hNs
  go_enter Tryz.func17, Tryz.ntmps17
  go_wp2_with ((first
    | ((refine (RD.out w0.heap.size (w0.alloc (.cells #[.string ⟨#[112, 97, 100]⟩] 9)) (by simp) (by simp)).mono ?_); rintro e w2 ⟨rfl, hb⟩; replace HM := Lib.hid ((HM.out.add 9 [.string ⟨#[112, 97, 100]⟩]).next hb); clear hb)
    | ((with_reducible refine (RH.out _).mono ?_); rintro e w ⟨rfl, hb⟩; replace HM := Lib.hid (HM.out.next hb); clear hb)
    | ((with_reducible refine (RS.out _).mono ?_); rintro e w ⟨rfl, hb⟩; replace HM := Lib.hid (HM.out.next hb); clear hb)))
  go_ret
  exact ⟨rfl, HM.out.below⟩

set_option maxHeartbeats 1600000 in
theorem reveal_any (s p X : ByteArray) (E r n : Int) (w : World) (hX : X = if sE s p = 0 then tx (of (sT s p).data.toList r n) else ⟨#[]⟩) (hE : E = sE s p) (rl : -9223372036854775808 ≤ r) (rh : r ≤ 9223372036854775807) (nl : -9223372036854775808 ≤ n) (nh : n ≤ 9223372036854775807) :
    Calls Tryz.prog 13 #[.string s, .string p, .int .i64 r, .int .i64 n] w fun e w' => e = .returned (.tuple #[.string X, .int .i64 E]) ∧ Below w.heap.size w w' := by
  obtain ⟨w0, hw0⟩ : ∃ w0, w0 = w := ⟨w, rfl⟩
  subst hw0
  obtain ⟨T, hT⟩ : ∃ T, T = sT s p := ⟨_, rfl⟩
  have hTs : T.size ≤ 1000 := by have := sT_size s p; rw [hT]; omega
  have R1 := Lib.hid (fun u => show Calls Tryz.prog 38 #[.string s, .string p] u fun r w' => r = .returned (.tuple #[.string T, .int .i64 E]) ∧ Below u.heap.size u w' from by rw [hT, hE, ← sharedV_eq]; exact RefLad.shared_ref _ _ u)
  have HM := Lib.hid (Hold.Hld.start w0)
  by_cases he : E = 0
  · subst he
    have hX2 : X = tx (of T.data.toList r n) := by rw [hX, if_pos hE.symm, hT]
    have R2 := Lib.hid (fun u => of_any T X r n u hX2 hTs rl rh nl nh)
    clear hX hE rl rh nl nh hT hTs hX2
    go_enter Tryz.func13, Tryz.ntmps13
    go_wp2_with ((first
      | ((with_reducible refine (R1.out _).mono ?_); rintro e w ⟨rfl, hb⟩; replace HM := Lib.hid (HM.out.next hb); clear hb)
      | ((with_reducible refine (R2.out _).mono ?_); rintro e w ⟨rfl, hb⟩; replace HM := Lib.hid (HM.out.next hb); clear hb)))
    go_ret2
    exact ⟨rfl, HM.out.below⟩
  · obtain rfl : X = ⟨#[]⟩ := by rw [hX, if_neg (by rw [← hE]; exact he)]
    have hq : ((E : Int) != 0) = true := by simpa using he
    have hq2 : ((E : Int) == 0) = false := by simpa using he
    clear hX hE rl rh nl nh hT hTs he
    go_enter Tryz.func13, Tryz.ntmps13
    go_wp2_with ((first
      | ((with_reducible refine (R1.out _).mono ?_); rintro e w ⟨rfl, hb⟩; replace HM := Lib.hid (HM.out.next hb); clear hb)))
    go_ret2
    exact ⟨rfl, HM.out.below⟩
end Go.Proofs.YtolmfimpaofefaaGreatDoor.RPad
