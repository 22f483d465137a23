/-
  The statement LanesXor: for every two texts and every number the law answers true and leaves its arguments as they were. Condition: none.
-/
import Derived.Test.YtfomlcdmeclnpaaRows
import Derived.Test.YtfomlcdmeclnpaaLaneLive
import Derived.ProofKit
import Derived.OpenShut
import Derived.SizedLaws
import Derived.ShutString
namespace Go.Proofs.Ytfomlcdmeclnpaa.LawXor
open Go.ChangeShapes Go.WideShapes Go.ChangeAt Go.RowKit Mur Lanes LanesXor
open Go.ChangeMaps (open_string shut_string)

def insideN (k n : Nat) : Nat := if k < 8 * n then 1 else 0
set_option maxHeartbeats 400000 in
theorem inside_any (k n : Nat) (w : World) (hn : n ≤ 140737488351232) :
    Calls Try.prog 22 #[.int .u64 k, .int .i64 n] w fun e w' => e = .returned (.int .i64 (insideN k n : Nat)) ∧ w = w' := by
  have hw : IntKind.u64.wrap (8 * (n : Int)) = 8 * (n : Int) := by rw [IntKind.wrap_u64]; omega
  by_cases h : k < 8 * n
  · have hd : decide ((k : Int) < 8 * (n : Int)) = true := by simp; omega
    go_enter Try.func22, Try.ntmps22
    go_wp2
    go_ret
    exact ⟨ret_int (by simp [insideN, h]), rfl⟩
  · have hd : decide ((k : Int) < 8 * (n : Int)) = false := by simp; omega
    go_enter Try.func22, Try.ntmps22
    go_wp2
    go_ret
    exact ⟨ret_int (by simp [insideN, h]), rfl⟩

/-- What the loop has found: each byte so far is 0, or lies beyond b. -/
def sameB (x b : List UInt8) : Nat → Bool
  | 0 => true
  | k + 1 => sameB x b k && (decide (b.length ≤ k) || (x.getD k 0 == 0))

theorem xorS_size (a b : ByteArray) : (xorS a b).size = a.size := by
  show (xorL a.data.toList b.data.toList).toArray.size = a.size
  simp [xorL]

theorem sameB_iff (x b : List UInt8) (n : Nat) : sameB x b n = true ↔ ∀ i, i < n → b.length ≤ i ∨ x.getD i 0 = 0 := by
  induction n with
  | zero => simp [sameB]
  | succ n ih =>
    rw [sameB, Bool.and_eq_true, ih, Bool.or_eq_true, decide_eq_true_eq, beq_iff_eq]
    constructor
    · rintro ⟨h1, h2⟩ i hi
      by_cases e : i = n
      · rw [e]; exact h2
      · exact h1 i (by omega)
    · intro h
      exact ⟨fun i hi => h i (by omega), h n (by omega)⟩
theorem xorL_getD (a b : List UInt8) (i : Nat) (h : i < a.length) : (xorL a b).getD i 0 = xorAt a b i := by
  simp [xorL, List.getD, h]
theorem sameB_eq (a b : List UInt8) (h : a.length = b.length) : sameB (xorL a b) b a.length = decide (a = b) := by
  rw [Bool.eq_iff_iff, sameB_iff, decide_eq_true_eq]
  constructor
  · intro hs
    apply List.ext_getElem h
    intro i h1 h2
    have := (hs i h1).resolve_left (by omega)
    rw [xorL_getD a b i h1, xorAt, if_pos h2, xor_eq_zero] at this
    simpa [List.getD, h1, h2] using this
  · rintro rfl i hi
    right
    rw [xorL_getD a a i hi, xorAt, if_pos hi, xor_eq_zero]
theorem xorL_back (a b : List UInt8) : xorL (xorL a b) b = a := by
  have hl : (xorL a b).length = a.length := by simp [xorL]
  apply List.ext_getElem (by simp [xorL])
  intro i h1 h2
  have e := xorL_getD a b i h2
  simp only [xorL, List.getElem_map, List.getElem_range] at *
  rw [xorAt]
  split
  · rename_i hb
    rw [e, xorAt, if_pos hb, UInt8.xor_assoc, UInt8.xor_self, UInt8.xor_zero]
    simp [List.getD, h2]
  · rename_i hb
    rw [e, xorAt, if_neg hb]
    simp [List.getD, h2]
theorem xorS_back (a b : ByteArray) : xorS (xorS a b) b = a := by
  show (⟨(xorL (xorL a.data.toList b.data.toList).toArray.toList b.data.toList).toArray⟩ : ByteArray) = a
  rw [List.toList_toArray, xorL_back]

theorem bit_nat (l : List UInt8) (K : Nat) : bit l (K : Int) = byt l (K / 8) / 2 ^ (K % 8) % 2 := by
  have e1 : ((K : Int) / 8).toNat = K / 8 := by omega
  have e2 : ((K : Int) % 8).toNat = K % 8 := by omega
  unfold bit
  rw [e1, e2]
  split
  · rename_i h
    have : l.length ≤ K / 8 := by omega
    have e : byt l (K / 8) = 0 := by simp [byt, List.getD, this]
    rw [e]; simp
  · rfl
theorem bit_law (a b : List UInt8) (K : Nat) (hK : K ≤ 8 * a.length) : bit a (K : Int) ^^^ (bit b (K : Int) &&& insideN K a.length) = bit (xorL a b) (K : Int) := by
  have hb2 := bit_lt b (K : Int)
  unfold insideN
  by_cases h : K < 8 * a.length
  · have hi : K / 8 < a.length := by omega
    rw [if_pos h, Nat.and_one_is_mod, Nat.mod_eq_of_lt hb2, bit_nat, bit_nat, bit_nat]
    have e : byt (xorL a b) (K / 8) = byt a (K / 8) ^^^ byt b (K / 8) := by
      unfold byt
      rw [xorL_getD a b _ hi, xorAt]
      split
      · rw [UInt8.toNat_xor]
      · rename_i hb
        have : b.length ≤ K / 8 := by omega
        simp [List.getD, this]
    rw [e, Nat.xor_div_two_pow]
    have := Nat.xor_mod_two_pow (a := byt a (K / 8) / 2 ^ (K % 8)) (b := byt b (K / 8) / 2 ^ (K % 8)) (n := 1)
    exact this.symm
  · have hi : a.length ≤ K / 8 := by omega
    have hl : (xorL a b).length = a.length := by simp [xorL]
    rw [if_neg h, Nat.and_zero, Nat.xor_zero, bit_nat, bit_nat]
    have e1 : byt a (K / 8) = 0 := by simp [byt, List.getD, hi]
    have e2 : byt (xorL a b) (K / 8) = 0 := by
      have : (xorL a b).length ≤ K / 8 := by omega
      simp [byt, List.getD, this]
    rw [e1, e2]
theorem bit_lawI (a b : List UInt8) (K : Nat) (hK : K ≤ 8 * a.length) : bits .xor .i64 (bit a (K : Int) : Int) (bits .and .i64 (bit b (K : Int) : Int) (insideN K a.length : Int)) = (bit (xorL a b) (K : Int) : Int) := by
  have h1 := bit_lt a (K : Int)
  have h2 := bit_lt b (K : Int)
  have h3 : insideN K a.length < 2 := by unfold insideN; split <;> omega
  have h4 : bit b (K : Int) &&& insideN K a.length ≤ bit b (K : Int) := Nat.and_le_left
  rw [and_i64_nat _ _ (by omega) (by omega), xor_i64_nat _ _ (by omega) (by omega), bit_law a b K hK]

theorem sameB_step (x b : ByteArray) (k : Nat) (hk : k < x.size) : sameB x.data.toList b.data.toList (k + 1) = (sameB x.data.toList b.data.toList k && (decide (b.size ≤ k) || ((x[k].toNat : Int) == 0))) := by
  have hk' : k < x.data.toList.length := hk
  have e : ((x[k].toNat : Int) == 0) = (x.data.toList.getD k 0 == 0) := by
    have e1 : x.data.toList.getD k 0 = x[k] := by
      simp only [List.getD, List.getElem?_eq_getElem hk']
      rfl
    rw [e1, Bool.eq_iff_iff, beq_iff_eq, beq_iff_eq]
    constructor
    · intro h
      exact UInt8.toNat_inj.mp (by have : (0 : UInt8).toNat = 0 := rfl; omega)
    · intro h
      rw [h]; rfl
  rw [e]
  rfl

set_option maxHeartbeats 1600000 in
theorem law_small (a b x : ByteArray) (at_ : Int) (w : World) (hxd : x = xorS a b) (hg : a.size + b.size ≤ 2000) :
    Calls Try.prog 5 #[.string a, .string b, .int .i64 at_] w fun e w' => e = .returned (.bool true) ∧ Below w.heap.size w w' := by
  have hx : (x.size : Int) = (a.size : Int) := by rw [hxd, xorS_size]
  have hback : xorS x b = a := by rw [hxd, xorS_back]
  have hw0 : 0 ≤ IntKind.u64.wrap at_ := by rw [IntKind.wrap_u64]; omega
  obtain ⟨K, hK⟩ : ∃ K : Nat, K = (IntKind.u64.wrap at_ % (8 * (a.size : Int) + 1)).toNat := ⟨_, rfl⟩
  have hK0 : 0 ≤ IntKind.u64.wrap at_ % (8 * (a.size : Int) + 1) := Int.emod_nonneg _ (by omega)
  have hK1 : IntKind.u64.wrap at_ % (8 * (a.size : Int) + 1) < 8 * (a.size : Int) + 1 := Int.emod_lt_of_pos _ (by omega)
  have hKl : K ≤ 8 * a.size := by omega
  have hKm : (IntKind.u64.wrap at_).tmod (8 * (a.size : Int) + 1) = (K : Int) := by
    rw [Int.tmod_eq_emod_of_nonneg hw0, hK]
    omega
  have hbit := bit_lawI a.data.toList b.data.toList K hKl
  have hsame : a.size = b.size → sameB x.data.toList b.data.toList a.size = (a.toList == b.toList) := fun h => by
    rw [hxd, ByteArray.toList_eq, ByteArray.toList_eq]
    exact (sameB_eq a.data.toList b.data.toList h).trans (by rw [Bool.eq_iff_iff, decide_eq_true_eq, beq_iff_eq])
  have hxl : x.data.toList = xorL a.data.toList b.data.toList := by rw [hxd]; rfl
  rw [← hxl] at hbit
  have hbit' : bits .xor .i64 (bit a.data.toList (K : Int) : Int) (bits .and .i64 (bit b.data.toList (K : Int) : Int) (insideN K a.size : Int)) = (bit x.data.toList (K : Int) : Int) := hbit
  have HX := Lib.hid hxd
  have HB := Lib.hid hback
  have HT := Lib.hid hbit'
  have HS := Lib.hid hsame
  have HKM := Lib.hid hKm
  clear hxd hback hbit hbit' hsame hKm hxl hK hK0 hK1 hw0
  go_enter Try.func5, Try.ntmps5
  go_wp2_with fail
  refine (xor_any _ _ _ (by omega) (by omega)).mono ?_
  rintro e w1 ⟨rfl, hb1⟩
  rw [← HX.out]
  go_wp2_with fail
  go_loopw [8, 23] (fun t i wr => ∃ k : Nat, k ≤ a.size ∧ i = .int .i64 k ∧ t = .bool (sameB x.data.toList b.data.toList k) ∧ Below w.heap.size w wr) (fun _ i _ => a.size - (intOf i).toNat)
  case atStart => exact ⟨0, by omega, rfl, rfl, hb1⟩
  case round =>
    obtain ⟨k, hk, rfl, rfl, hbel⟩ := hrel
    by_cases hlt : k < a.size
    · have hkx : k < x.size := by omega
      have hsd := sameB_step x b k hkx
      have HD := Lib.hid hsd
      clear hsd
      cases hs : sameB x.data.toList b.data.toList k
      · go_wp2
        go_roundw
        case rel => exact ⟨k + 1, by omega, by go_num, by rw [HD.out, hs]; rfl, hbel⟩
        case measure => simp [intOf]; omega
      · by_cases hbk : b.size ≤ k
        · have hd1 : decide (b.size ≤ k) = true := by simpa using hbk
          have H1 := Lib.hid hd1
          clear hd1
          go_wp2
          go_roundw
          case rel => exact ⟨k + 1, by omega, by go_num, by rw [HD.out, hs, H1.out]; rfl, hbel⟩
          case measure => simp [intOf]; omega
        · have hd1 : decide (b.size ≤ k) = false := by simpa using hbk
          have H1 := Lib.hid hd1
          clear hd1
          go_wp2
          go_roundw
          case rel => exact ⟨k + 1, by omega, by go_num, by rw [HD.out, hs, H1.out]; rfl, hbel⟩
          case measure => simp [intOf]; omega
    · obtain rfl : k = a.size := by omega
      go_wp2_with fail
      refine (xor_any _ _ _ (by omega) (by omega)).mono ?_
      rintro e w2 ⟨rfl, hb2⟩
      rw [HB.out]
      by_cases hsz : a.size = b.size
      · have hsz' : (a.size : Int) = (b.size : Int) := by omega
        have hsm := HS.out hsz
        have hkm := HKM.out
        have ht := HT.out
        rw [hsz'] at hkm
        rw [hsz] at ht
        have HZ := Lib.hid hsz
        clear hsz
        have hib := bit_lt x.data.toList (K : Int)
        have h2b : b.size ≤ 140737488351232 := by omega
        have h2a : a.size ≤ 140737488351232 := by omega
        have h2x : x.size ≤ 140737488351232 := by omega
        go_wp2_with fail
        refine (alike_eq _ _ _ (by omega) h2b).mono ?_
        rintro e w3 ⟨rfl, hb3⟩
        go_wp2_with fail
        refine (alike_eq _ _ _ (by omega) h2b).mono ?_
        rintro e w4 ⟨rfl, hb4⟩
        go_wp2_with fail
        refine (bit_any _ _ _ (by omega) (by omega) h2x).mono ?_
        rintro e w5 ⟨rfl, rfl⟩
        go_wp2_with fail
        refine (bit_any _ _ _ (by omega) (by omega) h2a).mono ?_
        rintro e w5 ⟨rfl, rfl⟩
        go_wp2_with fail
        refine (bit_any _ _ _ (by omega) (by omega) h2b).mono ?_
        rintro e w5 ⟨rfl, rfl⟩
        go_wp2_with fail
        refine (inside_any _ _ _ h2b).mono ?_
        rintro e w5 ⟨rfl, rfl⟩
        go_wp2_with fail
        refine (live_true _).mono ?_
        rintro e w5 ⟨rfl, hb5⟩
        go_wp2
        go_ret
        exact ⟨rfl, hbel.trans ((hb2.mono hbel.size).trans ((hb3.mono (Nat.le_trans hbel.size hb2.size)).trans ((hb4.mono (Nat.le_trans hbel.size (Nat.le_trans hb2.size hb3.size))).trans (hb5.mono (Nat.le_trans hbel.size (Nat.le_trans hb2.size (Nat.le_trans hb3.size hb4.size)))))))⟩
      · have hsz' : ¬ (a.size : Int) = (b.size : Int) := by omega
        have hkm := HKM.out
        have ht := HT.out
        have h2b : b.size ≤ 140737488351232 := by omega
        have h2a : a.size ≤ 140737488351232 := by omega
        have h2x : x.size ≤ 140737488351232 := by omega
        go_wp2_with fail
        refine (alike_eq _ _ _ h2a h2b).mono ?_
        rintro e w3 ⟨rfl, hb3⟩
        go_wp2_with fail
        refine (bit_any _ _ _ (by omega) (by omega) h2x).mono ?_
        rintro e w4 ⟨rfl, rfl⟩
        go_wp2_with fail
        refine (bit_any _ _ _ (by omega) (by omega) h2a).mono ?_
        rintro e w4 ⟨rfl, rfl⟩
        go_wp2_with fail
        refine (bit_any _ _ _ (by omega) (by omega) h2b).mono ?_
        rintro e w4 ⟨rfl, rfl⟩
        go_wp2_with fail
        refine (inside_any _ _ _ h2a).mono ?_
        rintro e w4 ⟨rfl, rfl⟩
        go_wp2_with fail
        refine (live_true _).mono ?_
        rintro e w5 ⟨rfl, hb5⟩
        go_wp2
        go_ret
        exact ⟨rfl, hbel.trans ((hb2.mono hbel.size).trans ((hb3.mono (Nat.le_trans hbel.size hb2.size)).trans (hb5.mono (Nat.le_trans hbel.size (Nat.le_trans hb2.size hb3.size)))))⟩

set_option maxHeartbeats 400000 in
theorem law_great (a b : ByteArray) (at_ : Int) (w : World) (hg : ¬ a.size + b.size ≤ 2000) (ha : a.size ≤ 140737488351232) (hb : b.size ≤ 140737488351232) :
    Calls Try.prog 5 #[.string a, .string b, .int .i64 at_] w fun e w' => e = .returned (.bool true) ∧ Below w.heap.size w w' := by
  go_enter Try.func5, Try.ntmps5
  go_wp2_with fail
  refine (live_true _).mono ?_
  rintro e w1 ⟨rfl, hb1⟩
  go_wp2
  go_ret
  exact ⟨rfl, hb1⟩

theorem walk (a b : ByteArray) (at_ : Int) (w : World) (ha : a.size ≤ 140737488351232) (hb : b.size ≤ 140737488351232) :
    Calls Try.prog 5 #[.string a, .string b, .int .i64 at_] w fun e w' => e = .returned (.bool true) ∧ Below w.heap.size w w' := by
  by_cases hg : a.size + b.size ≤ 2000
  · exact law_small a b (xorS a b) at_ w rfl hg
  · exact law_great a b at_ w hg ha hb

theorem own : ownKnob Try.prog.godebug = none := by kernel_rfl

set_option maxRecDepth 100000 in
theorem lifted (os : Os) (started : os.Started) (H : Type) (enc : TypeId × Value → H) :
    ReturnsInHanded {} Try.checked os 5 .any (Rows.lanesXorSpec.pre6 enc Try.prog Try.f5 Rows.lanesXorRow.domain false) (Rows.lanesXorSpec.post enc Try.prog Try.f5 false true false false) := by
  refine returnsInHanded_of_change_sized (C := Try.checked) own started (by kernel_rfl) Try.func5
    (ChangeSpec.witness6 (enc := enc) (C := Try.checked) false ⟨#[], #[.string ByteArray.empty, .string ByteArray.empty, .int .i64 0], []⟩ 8 (by kernel_rfl) (by kernel_rfl) (by kernel_rfl) (by kernel_rfl)) ?_
  intro W base args ds gs before hval0 hW hcnd hsz0 _
  have hsz : (DataW.weightsEach Try.prog (Try.f5.params.toList ++ Rows.lanesXorSpec.plain.varTypes Try.prog) (ds ++ gs)).all (· ≤ reachBytes) = true := hsz0
  clear hsz0
  have hval : ∀ (j : Nat) t v, Try.f5.params[j]? = some t → args[j]? = some v → Value.okWide Try.prog W .any base t v := hval0
  have hW' := hW
  obtain ⟨p, q, hA0, hV, rfl, hfz, hnd⟩ := hW
  have hA : DataW.TrodAll enc Try.prog W 0 (fun _ => true) true Try.f5.params.toList args.toList ds p := hA0
  rw [Try.params5] at hA hval hsz
  obtain ⟨v0, vs0, d0, ds0, p0, q0, hargs, rfl, rfl, h0, r0⟩ := trodAll_cons hA
  obtain ⟨v1, vs1, d1, ds1, p1, q1, rfl, rfl, rfl, h1, r1⟩ := trodAll_cons r0
  obtain ⟨v2, vs2, d2, ds2, p2, q2, rfl, rfl, rfl, h2, r2⟩ := trodAll_cons r1
  obtain ⟨rfl, rfl, rfl⟩ := trodAll_nil r2
  obtain rfl : args = #[v0, v1, v2] := by cases args; simp_all
  obtain ⟨rfl, rfl⟩ := trodVars_none hV
  obtain ⟨a0, rfl, rfl, rfl, w0⟩ := open_string Try.underlying9 (hval 0 9 v0 rfl rfl) h0
  obtain ⟨a1, rfl, rfl, rfl, w1⟩ := open_string Try.underlying9 (hval 1 9 v1 rfl rfl) h1
  obtain ⟨a2, rfl, rfl, rfl, w2⟩ := open_int Try.underlying3 (hval 2 3 v2 rfl rfl) h2
  have z0 := sized_string hsz (j := 0) (t := 9) (bytes := a0.data.toList) rfl rfl
  have z1 := sized_string hsz (j := 1) (t := 9) (bytes := a1.data.toList) rfl rfl
  clear hA0 hval0
  refine (walk a0 a1 a2 W z0 z1).mono fun e W' ⟨he, bel⟩ => ?_
  subst he
  exact ⟨_, rfl, _, _, _, [], _, [], hW', trodAll_mk1 (shut_bool Try.underlying4 _), (trodAll_cons_mk (shut_string Try.underlying9 w0) (trodAll_cons_mk (shut_string Try.underlying9 w1) (trodAll_cons_mk (shut_int Try.underlying3 w2) trodAll_mk0))), rfl, bel.frame _, fun h => by cases h⟩

theorem over : Rows.lanesXorRow.holds Try.pinned (OpenSpec.ofChange Rows.lanesXorSpec) :=
  OpenClaim.holds_of_wide 5 Try.f5 rfl rfl rfl rfl rfl rfl rfl ⟨rfl, rfl, rfl, rfl, rfl⟩ rfl rfl rfl rfl rfl (by kernel_rfl) Try.func5 (by kernel_rfl)
    (of_decide_eq_true (by kernel_rfl)) (by unfold Func.isWrapper; first | (rw [if_pos (by decide +kernel)]; kernel_rfl) | (rw [if_neg (by decide +kernel)]; exact ⟨rfl, rfl⟩))
    (fun os started H enc _ => lifted os started H enc)

theorem proved : Rows.LanesXorSaid := over
end Go.Proofs.Ytfomlcdmeclnpaa.LawXor
