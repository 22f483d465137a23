/-
  DigestSays: the seven functions of package digest answer as the document's own answers of layer 2 do: for every input, the law answers true and changes nothing that was there. Condition: the constant table lies as the program's text lays it (the card ties it).
-/
import Derived.Test.YtlecmpmfgeneoaaDoorLawDigWalk
import Derived.Test.YtlecmpmfgeneoaaDoorCards
import Derived.Test.YtlecmpmfgeneoaaDoorOpen
import Derived.Test.YtlecmpmfgeneoaaDoorTie
import Derived.SevenTiedAt
namespace Go.Proofs.YtlecmpmfgeneoaaDoor.LawDig
open Go.ChangeShapes Go.WideShapes Go.ChangeAt Go.RowKit Mur Sha

set_option maxHeartbeats 800000 in
theorem law_great (a b c d e f g h k : Nat) (s t : ByteArray) (w : World) (hg : ¬ s.size + t.size ≤ 3000) (hs : s.size ≤ 140737488351232) (ht : t.size ≤ 140737488351232) (hk : Consts w) :
    Calls Tryd.prog 3 #[.agg #[.int .u32 (a : Int), .int .u32 (b : Int), .int .u32 (c : Int), .int .u32 (d : Int), .int .u32 (e : Int), .int .u32 (f : Int), .int .u32 (g : Int), .int .u32 (h : Int)], .agg #[.string s, .string t], .int .u32 (k : Int)] w
      fun e w' => e = .returned (.bool true) ∧ Below w.heap.size w w' := by
  have hd1 : decide (3000 < (s.size : Int) + (t.size : Int)) = true := by simp; omega
  have HK := Lib.hid hk
  clear hk
  go_enter Tryd.func3, Tryd.ntmps3
  go_wp2_with fail
  refine (awake_any _ (HK.out.below HK.out.1 (((Below.refl _ _).alloc (Nat.le_refl _) _).alloc (by simp) _))).mono ?_
  rintro e w1 ⟨rfl, hb1⟩
  go_wp2
  go_ret
  exact ⟨rfl, (((Below.refl _ _).alloc (Nat.le_refl _) _).alloc (by simp) _).trans (hb1.mono (by simp <;> omega))⟩
theorem walk (a b c d e f g h k : Nat) (s t : ByteArray) (w : World) (hv : (⟨a, b, c, d, e, f, g, h⟩ : S8).Ok) (hs : s.size ≤ 140737488351232) (ht : t.size ≤ 140737488351232) (hk : Consts w) :
    Calls Tryd.prog 3 #[.agg #[.int .u32 (a : Int), .int .u32 (b : Int), .int .u32 (c : Int), .int .u32 (d : Int), .int .u32 (e : Int), .int .u32 (f : Int), .int .u32 (g : Int), .int .u32 (h : Int)], .agg #[.string s, .string t], .int .u32 (k : Int)] w
      fun e w' => e = .returned (.bool true) ∧ Below w.heap.size w w' := by
  by_cases hg : s.size + t.size ≤ 3000
  · exact law_small a b c d e f g h k s t w hv hg hk
  · exact law_great a b c d e f g h k s t w hg hs ht hk

theorem two_of {α : Type} (l : List α) (h : l.length = 2) : ∃ a b, l = [a, b] := by
  match l, h with
  | [a, b], _ => exact ⟨a, b, rfl⟩

theorem laidOut : laidOutB Tryd.prog = true := by kernel_rfl
theorem eight_of (l : List Int) (h : l.length = 8) : ∃ a b c d e f g k, l = [a, b, c, d, e, f, g, k] := by
  match l, h with
  | [a, b, c, d, e, f, g, k], _ => exact ⟨a, b, c, d, e, f, g, k, rfl⟩
theorem nat_of {n : Int} (h : (Lit.int .u32 n).wf = true) : ∃ m : Nat, n = (m : Int) ∧ m < 4294967296 := by
  have h2 : 0 ≤ n ∧ n ≤ 4294967295 := by simpa [Lit.wf, IntKind.min, IntKind.max, IntKind.signed, IntKind.bits] using h
  exact ⟨n.toNat, by omega, by omega⟩

set_option maxRecDepth 100000 in
theorem lifted (os : Os) (started : os.Started) (H : Type) (enc : TypeId × Value → H) :
    ReturnsInHanded {} Tryd.checked os 3 .any (fun w args => (Rows.digestSaysSpec.pre enc Tryd.prog Tryd.f3 [] false w args ∧ laidMetH Tryd.prog laidL w) ∧ sizedMet enc Tryd.prog Tryd.f3 (OpenSpec.ofChange Rows.digestSaysSpec) false w args)
      (Rows.digestSaysSpec.post enc Tryd.prog Tryd.f3 false true false false) := by
  refine returnsInHanded_of_change_and (C := Tryd.checked) (X := fun w _ => laidMetH Tryd.prog laidL w) (fun _ _ _ hh h => h.of_heap hh) own started (by kernel_rfl) Tryd.func3
    (ChangeSpec.witness_shaped (enc := enc) (C := Tryd.checked) (os := os) (X := fun w _ => laidMetH Tryd.prog laidL w) false (World.doorLaid Tryd.prog 400 os) #[.agg #[.int .u32 0, .int .u32 0, .int .u32 0, .int .u32 0, .int .u32 0, .int .u32 0, .int .u32 0, .int .u32 0], .agg #[.string ByteArray.empty, .string ByteArray.empty], .int .u32 0] 8 rfl (World.shaped_of_RefB (by kernel_rfl) (by kernel_rfl)) (by kernel_rfl) (by kernel_rfl) (by kernel_rfl) (door_met os _)) ?_
  intro W base args ds gs before hval0 hW _ hsz0 hL _
  have hval : ∀ (j : Nat) t v, Tryd.f3.params[j]? = some t → args[j]? = some v → Value.okWide Tryd.prog W .any base t v := hval0
  have hsz : (DataW.weightsEach Tryd.prog (Tryd.f3.params.toList ++ Rows.digestSaysSpec.plain.varTypes Tryd.prog) (ds ++ gs)).all (· ≤ reachBytes) = true := hsz0
  clear hsz0
  have hW' := hW
  obtain ⟨p, q, hA0, hV, rfl, hfz, hnd⟩ := hW
  have hA : DataW.TrodAll enc Tryd.prog W 0 (fun _ => true) true Tryd.f3.params.toList args.toList ds p := hA0
  rw [Tryd.params3] at hA hval hsz
  obtain ⟨v0, vs0, d0, ds0, p0, q0, hargs, rfl, rfl, h0, r0⟩ := trodAll_cons hA
  obtain ⟨v1, vs1, d1, ds1, p1, q1, rfl, rfl, rfl, h1, r1⟩ := trodAll_cons r0
  obtain ⟨v2, vs2, d2, ds2, p2, q2, rfl, rfl, rfl, h2, r2⟩ := trodAll_cons r1
  obtain ⟨rfl, rfl, rfl⟩ := trodAll_nil r2
  obtain rfl : args = #[v0, v1, v2] := by cases args; simp_all
  obtain ⟨rfl, rfl⟩ := trodVars_none hV
  have k0 := h0
  have lt0 : ∀ x ∈ p0, x.block < W.heap.size := by obtain ⟨m, hm⟩ := k0; exact DataW.trod_lt m _ _ _ hm
  have k1 := h1
  have lt1 : ∀ x ∈ p1, x.block < W.heap.size := by obtain ⟨m, hm⟩ := k1; exact DataW.trod_lt m _ _ _ hm
  obtain ⟨ss, hsl, rfl, rfl, rfl, _⟩ := Open.open_string_array Tryd.underlying24 Tryd.underlying9 (by kernel_rfl) (by kernel_rfl) (hval 1 24 v1 rfl rfl) h1
  have z1 := Open.sized_string_array hsz (j := 1) (t := 24) (ss := ss) rfl rfl Tryd.underlying24
  obtain ⟨s0, s1, rfl⟩ := two_of ss hsl
  obtain ⟨a2, rfl, rfl, rfl, w1⟩ := open_int Tryd.underlying22 (hval 2 22 v2 rfl rfl) h2
  obtain ⟨ns, hnl, rfl, rfl, rfl, w0⟩ := Open.open_int_array Tryd.underlying23 Tryd.underlying22 (by kernel_rfl) (by kernel_rfl) (hval 0 23 v0 rfl rfl) h0
  obtain ⟨n0, n1, n2, n3, n4, n5, n6, n7, rfl⟩ := eight_of ns hnl
  obtain ⟨m0, rfl, l0⟩ := nat_of (w0 n0 (by simp))
  obtain ⟨m1, rfl, l1⟩ := nat_of (w0 n1 (by simp))
  obtain ⟨m2, rfl, l2⟩ := nat_of (w0 n2 (by simp))
  obtain ⟨m3, rfl, l3⟩ := nat_of (w0 n3 (by simp))
  obtain ⟨m4, rfl, l4⟩ := nat_of (w0 n4 (by simp))
  obtain ⟨m5, rfl, l5⟩ := nat_of (w0 n5 (by simp))
  obtain ⟨m6, rfl, l6⟩ := nat_of (w0 n6 (by simp))
  obtain ⟨m7, rfl, l7⟩ := nat_of (w0 n7 (by simp))
  obtain ⟨kk, rfl, lk⟩ := nat_of w1
  have hcl := of_laid hL
  clear hA0 hval0
  refine (walk m0 m1 m2 m3 m4 m5 m6 m7 kk s0 s1 W ⟨l0, l1, l2, l3, l4, l5, l6, l7⟩ (z1 s0 (by simp)) (z1 s1 (by simp)) hcl).mono fun e W' ⟨he, bel⟩ => ?_
  subst he
  exact ⟨_, rfl, _, _, _, [], _, [], hW', trodAll_mk1 (shut_bool Tryd.underlying4 _), (trodAll_cons_mk (Below.trod laidOut (by kernel_rfl) (of_decide_eq_true (by kernel_rfl)) k0 bel lt0) (trodAll_cons_mk (Below.trod laidOut (by kernel_rfl) (of_decide_eq_true (by kernel_rfl)) k1 bel lt1) (trodAll_cons_mk (shut_int Tryd.underlying22 w1) trodAll_mk0))), rfl, bel.frame _, fun h => by cases h⟩

theorem over : Rows.DigestSaysSaid :=
  OpenClaim.holds_of_wide 3 Tryd.f3 rfl rfl rfl rfl rfl rfl rfl ⟨rfl, rfl, rfl, rfl, rfl⟩ rfl rfl rfl rfl rfl (by kernel_rfl) Tryd.func3 (by kernel_rfl)
    (of_decide_eq_true (by kernel_rfl)) (by unfold Func.isWrapper; first | (rw [if_pos (by decide +kernel)]; kernel_rfl) | (rw [if_neg (by decide +kernel)]; exact ⟨rfl, rfl⟩))
    (fun os started H enc _ => lifted os started H enc)

theorem proved : Rows.DigestSaysCardSaid :=
  Claim7.holds_tied_plain_at .later [] [.data] true Rows.digestSaysCard.stood.harness false
    over (fun _ h => by cases h) (by kernel_rfl) (fun _ h => by cases h) digestSays_row_tie rfl ⟨rfl, rfl⟩ (by kernel_rfl) rfl
    (fun f fn hf hfn => by
      obtain rfl : f = 3 := Option.some.inj ((show Tryd.prog.funcNamed "murmur/murmurlaw02.DigestSays" = some 3 by kernel_rfl).symm.trans hf) |>.symm
      obtain rfl : fn = Tryd.f3 := (Option.some.inj (Tryd.func3.symm.trans hfn)).symm
      exact ⟨by kernel_rfl, fun j t ht => by
        rw [Tryd.params3] at ht
        have hm : t ∈ [23, 24, 22] := by simpa using Array.mem_of_getElem? ht
        have hall : ([23, 24, 22].all fun u => !Tryd.prog.wantsStandIn u) = true := by kernel_rfl
        exact (show Tryd.prog.wantsStandIn t = false by simpa using List.all_eq_true.1 hall t hm)⟩)
    (by kernel_rfl)
#print axioms proved
end Go.Proofs.YtlecmpmfgeneoaaDoor.LawDig
