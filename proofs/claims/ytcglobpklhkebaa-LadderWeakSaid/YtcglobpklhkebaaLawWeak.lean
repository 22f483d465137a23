/-
  LadderWeak: what is shared with each key of a row, and which keys are weak, are those of the document's own answer: for every input, the law answers true and changes nothing that was there. No condition.
-/
import Derived.Test.YtcglobpklhkebaaLadAll
import Derived.Test.YtcglobpklhkebaaRows
import Derived.Test.YtcglobpklhkebaaOpen
import Derived.SliceStrings
import Derived.ChangeOld
import Derived.OpenShut
import Derived.ChangeMaps5
import Derived.BigQuiet
import Derived.StillTailTactics
import Derived.Deep.QuietTactic
namespace Go.Proofs.Ytcglobpklhkebaa.LawWeak
open Go.ChangeShapes Go.WideShapes Go.ChangeAt Go.ChangeMaps Go.RowKit Mur Lanes Limb LadC Lad LadAll
set_option maxRecDepth 100000

theorem alls_same (s : ByteArray) (ls : List ByteArray) (i : Nat) (h : i < (alls s ls).length) : ∃ x, (Strs.strsV (alls s ls))[i]? = some (.string x) :=
  ⟨(alls s ls)[i], Strs.strsV_at (by simp [h])⟩

theorem alls_le (s : ByteArray) (ls : List ByteArray) : (alls s ls).length ≤ ls.length := by
  unfold alls
  split
  · simp
  · simp

set_option maxHeartbeats 6400000 in
theorem law_small (s : ByteArray) (ls : List ByteArray) (a : Option Addr) (b o cap : Nat) (w : World) (hs : s.size ≤ 200) (ha : ls.length ≠ 0 → a = some ⟨b, o, none⟩ ∧ b < w.heap.size) (hn : ls.length ≤ 3) (hcell : ∀ i (h : i < ls.length), w.cell? ⟨b, o + i, none⟩ = some (.string ls[i])) :
    Calls Try.prog 8 #[.string s, .slice a ls.length cap] w fun e w' => e = .returned (.bool true) ∧ Below w.heap.size w w' := by
  have hd1 : decide (200 < (s.size : Int)) = false := by simp; omega
  have hd2 : decide (3 < (ls.length : Int)) = false := by simp; omega
  have TL := Lib.hid (fun u => LadC.awake_any u)
  have HCL := Lib.hid hcell
  have HAA := Lib.hid ha
  have R1 := Lib.hid (all_any s ls a b o cap w ha hcell (by omega))
  have R2 := Lib.hid (fun (u : World) (hu : Below w.heap.size w u) => all_ref s ls a b o cap u (fun h => ⟨(ha h).1, Nat.lt_of_lt_of_le (ha h).2 hu.size⟩) (fun i h => (hu.cell (p := ⟨b, o + i, none⟩) (ha (by omega)).2).trans (hcell i h)) (by omega))
  have hx := fun i h => alls_same s ls i h
  obtain ⟨M, hM⟩ : ∃ M, M = Strs.strsV (alls s ls) := ⟨_, rfl⟩
  obtain ⟨n, hn'⟩ : ∃ n, n = (alls s ls).length := ⟨_, rfl⟩
  obtain ⟨E, hE⟩ : ∃ n, n = errs s ls := ⟨_, rfl⟩
  have hn3 : n ≤ 3 := by rw [hn']; exact Nat.le_trans (alls_le s ls) hn
  rw [← hM, ← hn'] at R1 R2 hx
  rw [← hE] at R1 R2
  have HX := Lib.hid hx
  have eE : ((E : Int) != E) = false := by simp
  have eE2 : ((E : Int) == E) = true := by simp
  clear hcell ha hx hM hn' hE
  go_enter Try.func8, Try.ntmps8
  go_wp2_with fail
  refine R1.out.mono ?_
  rintro e w1 ⟨v1, rfl, hown1, hb1⟩
  obtain ⟨g1, c1, rfl, -, -, hcell1⟩ := Strs.own_slice hown1
  have HB1 := Lib.hid hb1
  have HC1 := Lib.hid hcell1
  clear hb1 hcell1 hown1 R1
  go_wp2_with fail
  refine (R2.out _ HB1.out).mono ?_
  rintro e w2 ⟨v2, rfl, hown2, hb2⟩
  obtain ⟨g2, c2, rfl, -, -, hcell2⟩ := Strs.own_slice hown2
  have HB2 := Lib.hid (HB1.out.trans (hb2.mono HB1.out.size))
  have HC3 := Lib.hid (show ∀ i u, M[i]? = some u → ∃ g, g1 = some ⟨g, 0, none⟩ ∧ g < w2.heap.size ∧ w2.cell? ⟨g, i, none⟩ = some u from fun i u hu => by
    obtain ⟨g, h1, h2, h3, h4⟩ := HC1.out i u hu
    exact ⟨g, h1, Nat.lt_of_lt_of_le h3 hb2.size, (hb2.cell (p := ⟨g, i, none⟩) h3).trans h4⟩)
  have HC2 := Lib.hid hcell2
  clear hb2 hcell2 hown2 R2 HC1 HB1
  go_wp2_with fail
  go_loopw [4, 9, 45] (fun _ _ i wr => Below w2.heap.size w2 wr ∧ ∃ k : Nat, k ≤ n ∧ i = .int .i64 k) (fun _ _ i _ => n - (intOf i).toNat)
  case atStart => exact ⟨Below.refl _ _, 0, by omega, rfl⟩
  case round =>
    obtain ⟨hbel, k, hk, rfl⟩ := hrel
    by_cases hlt : k < n
    · obtain ⟨x, hx⟩ := HX.out k hlt
      obtain ⟨ga, rfl, hla, hca⟩ := HC3.out k _ hx
      obtain ⟨gb, rfl, -, hlb, hcb⟩ := HC2.out k _ hx
      have hca := (hbel.cell (p := ⟨ga, k, none⟩) hla).trans hca
      have hcb := (hbel.cell (p := ⟨gb, k, none⟩) hlb).trans hcb
      have e1 : (x.toList == x.toList) = true := by simp
      have e2 : (x.toList != x.toList) = false := by simp
      clear hx
      go_wp2
      go_quiet (fail)
      all_goals go_wp2
      all_goals go_roundw
      case rel => exact ⟨belowN hbel _, k + 1, by omega, by go_num⟩
      case measure => simp [intOf]; omega
    · obtain rfl : k = n := by omega
      have HB2 := Lib.hid (HB2.out.trans (hbel.mono HB2.out.size))
      clear HC3 HC2 HX eE eE2 hbel
      go_wp2_with fail
      go_loopw [4, 11, 60] (fun _ _ i wr => ∃ k : Nat, k ≤ ls.length ∧ i = .int .i64 k ∧ Below w.heap.size w wr) (fun _ _ i _ => ls.length - (intOf i).toNat)
      case atStart => exact ⟨0, by omega, rfl, HB2.out⟩
      case round =>
        clear HB2
        obtain ⟨k, hk, rfl, hb⟩ := hrel
        by_cases hlt : k < ls.length
        · obtain ⟨rfl, hbb⟩ := HAA.out (by omega)
          have hc := (hb.cell (p := ⟨b, o + k, none⟩) hbb).trans (HCL.out k hlt)
          generalize ls[k] = p at *
          have HB := Lib.hid hb
          clear hb
          by_cases hp : p.size ≤ 200
          · have hd3 : decide (200 < (p.size : Int)) = false := by simp; omega
            have r3 := fun u => LadC.weak_any p u
            have r4 := fun u => LadAll.weak_ref p u
            generalize weakB p = B at r3 r4
            have eB : (B == B) = true := by simp
            have eB2 : (B != B) = false := by simp
            have R3 := Lib.hid r3
            have R4 := Lib.hid r4
            clear r3 r4
            go_wp2_with fail
            refine (R3.out _).mono ?_
            rintro e w3 ⟨rfl, hb⟩
            have HB3 := Lib.hid (HB.out.trans (hb.mono HB.out.size))
            clear hb HB hc
            go_wp2_with fail
            refine (R4.out _).mono ?_
            rintro e w4 ⟨rfl, hb⟩
            have HB4 := Lib.hid (HB3.out.trans (hb.mono HB3.out.size))
            clear hb HB3
            go_wp2
            go_roundw
            case rel => exact ⟨k + 1, by omega, by go_num, HB4.out⟩
            case measure => simp [intOf]; omega
          · have hd3 : decide (200 < (p.size : Int)) = true := by simp; omega
            go_wp2_with fail
            refine (TL.out _).mono ?_
            rintro e w3 ⟨rfl, hb⟩
            go_wp2
            go_ret
            exact ⟨rfl, HB.out.trans (hb.mono HB.out.size)⟩
        · obtain rfl : k = ls.length := by omega
          have HB := Lib.hid hb
          clear hb
          go_wp2_with fail
          refine (TL.out _).mono ?_
          rintro e w3 ⟨rfl, hb⟩
          go_wp2
          go_ret
          exact ⟨rfl, HB.out.trans (hb.mono HB.out.size)⟩

set_option maxHeartbeats 400000 in
theorem law_long (s : ByteArray) (v : Value) (w : World) (hg : ¬ s.size ≤ 200) :
    Calls Try.prog 8 #[.string s, v] w fun e w' => e = .returned (.bool true) ∧ Below w.heap.size w w' := by
  have hd1 : decide (200 < (s.size : Int)) = true := by simp; omega
  have TL := Lib.hid (fun u => LadC.awake_any u)
  clear hg
  go_enter Try.func8, Try.ntmps8
  go_wp2_with fail
  refine (TL.out _).mono ?_
  rintro e w1 ⟨rfl, hb1⟩
  go_wp2
  go_ret
  exact ⟨rfl, hb1⟩
set_option maxHeartbeats 400000 in
theorem law_great (s : ByteArray) (a : Option Addr) (n cap : Nat) (w : World) (hs : s.size ≤ 200) (hn : n ≤ 9223372036854775807) (hg : ¬ n ≤ 3) :
    Calls Try.prog 8 #[.string s, .slice a n cap] w fun e w' => e = .returned (.bool true) ∧ Below w.heap.size w w' := by
  have hd1 : decide (200 < (s.size : Int)) = false := by simp; omega
  have hd2 : decide (3 < (n : Int)) = true := by simp; omega
  have TL := Lib.hid (fun u => LadC.awake_any u)
  clear hg hs
  go_enter Try.func8, Try.ntmps8
  go_wp2_with fail
  refine (TL.out _).mono ?_
  rintro e w1 ⟨rfl, hb1⟩
  go_wp2
  go_ret
  exact ⟨rfl, hb1⟩

theorem strs_at {w : World} {a : Addr} {ss : List ByteArray} (h : ∀ i, i < ss.length → w.cell? (a.add i) = some (.string (ss.getD i ByteArray.empty))) (hp : 0 < ss.length) :
    ∃ b off, a = ⟨b, off, none⟩ ∧ b < w.heap.size ∧ ∀ j, j < ss.length → w.cell? ⟨b, off + j, none⟩ = some (.string (ss.getD j ByteArray.empty)) := by
  obtain ⟨b, off, spot⟩ := a
  have hspot : spot = none := by simpa [Addr.add] using World.cell?_spot (h 0 hp)
  subst hspot
  have hc : ∀ j, j < ss.length → w.cell? ⟨b, off + j, none⟩ = some (.string (ss.getD j ByteArray.empty)) := fun j hj => by rw [← Go.WideShapes.add_plain]; exact h j hj
  refine ⟨b, off, rfl, ?_, hc⟩
  have h0 := hc 0 hp
  rcases Nat.lt_or_ge b w.heap.size with h' | h'
  · exact h'
  · simp [World.cell?, Array.getElem?_eq_none h'] at h0

/-- What the walk is told of a slice of texts that came in. -/
def IsStrs (w : World) (a : Option Addr) (len : Nat) (ss : List ByteArray) : Prop :=
  (len = 0) ∨ ∃ x, a = some x ∧ len ≤ ss.length ∧ len ≤ 9223372036854775807 ∧ ∀ i, i < ss.length → w.cell? (x.add i) = some (.string (ss.getD i ByteArray.empty))
theorem walk (s : ByteArray) (a : Option Addr) (len cap : Nat) (ss : List ByteArray) (w : World) (hs : IsStrs w a len ss) :
    Calls Try.prog 8 #[.string s, .slice a len cap] w fun e w' => e = .returned (.bool true) ∧ Below w.heap.size w w' := by
  by_cases hsz : s.size ≤ 200
  case neg => exact law_long s _ w hsz
  by_cases hg : len ≤ 3
  · rcases hs with rfl | ⟨x, rfl, hl, hm, hc⟩
    · exact law_small s [] a 0 0 cap w hsz (fun h => absurd rfl h) (by decide) (fun i hi => absurd hi (by simp))
    · by_cases h0 : len = 0
      · subst h0
        exact law_small s [] _ 0 0 cap w hsz (fun h => absurd rfl h) (by decide) (fun i hi => absurd hi (by simp))
      · obtain ⟨b, o, rfl, hb, hc'⟩ := strs_at hc (by omega)
        have hlen : (ss.take len).length = len := by simp; omega
        have := law_small s (ss.take len) (some ⟨b, o, none⟩) b o cap w hsz (fun _ => ⟨rfl, hb⟩) (by omega) (fun i hi => by
          rw [hc' i (by omega)]
          have : i < ss.length := by omega
          simp [List.getD, this])
        rw [hlen] at this
        exact this
  · rcases hs with rfl | ⟨x, rfl, hl, hm, hc⟩
    · omega
    · exact law_great s _ len cap w hsz hm hg

theorem own : ownKnob Try.prog.godebug = none := by kernel_rfl
theorem laidOut : laidOutB Try.prog = true := by kernel_rfl

set_option maxRecDepth 100000 in
theorem lifted (os : Os) (started : os.Started) (H : Type) (enc : TypeId × Value → H) :
    ReturnsInHanded {} Try.checked os 8 .any (Rows.ladderWeakSpec.pre6 enc Try.prog Try.f8 Rows.ladderWeakRow.domain false) (Rows.ladderWeakSpec.post enc Try.prog Try.f8 false true false false) := by
  refine returnsInHanded_of_change_sized (C := Try.checked) own started (by kernel_rfl) Try.func8
    (ChangeSpec.witness6 (enc := enc) (C := Try.checked) false ⟨#[], #[.string ByteArray.empty, .slice none 0 0], []⟩ 8 (by kernel_rfl) (by kernel_rfl) (by kernel_rfl) (by kernel_rfl)) ?_
  intro W base args ds gs before hval0 hW hcnd hsz0 _
  have hval : ∀ (j : Nat) t v, Try.f8.params[j]? = some t → args[j]? = some v → Value.okWide Try.prog W .any base t v := hval0
  have hW' := hW
  obtain ⟨p, q, hA0, hV, rfl, hfz, hnd⟩ := hW
  have hA : DataW.TrodAll enc Try.prog W 0 (fun _ => true) true Try.f8.params.toList args.toList ds p := hA0
  rw [Try.params8] at hA hval
  obtain ⟨v0, vs0, d0, ds0, p0, q0, hargs, rfl, rfl, h0, r0⟩ := trodAll_cons hA
  obtain ⟨v1, vs1, d1, ds1, p1, q1, rfl, rfl, rfl, h1, r1⟩ := trodAll_cons r0
  obtain ⟨rfl, rfl, rfl⟩ := trodAll_nil r1
  obtain rfl : args = #[v0, v1] := by cases args; simp_all
  obtain ⟨rfl, rfl⟩ := trodVars_none hV
  obtain ⟨s0, rfl, rfl, rfl, w0⟩ := open_string Try.underlying9 (hval 0 9 v0 rfl rfl) h0
  have k1 := h1
  have lt1 : ∀ x ∈ p1, x.block < W.heap.size := by obtain ⟨m, hm⟩ := k1; exact DataW.trod_lt m _ _ _ hm
  obtain ⟨a1, len1, cap1, rfl⟩ := okWide_slice Try.underlying48 (hval 1 48 v1 rfl rfl)
  obtain ⟨ss, w1⟩ : ∃ ss, IsStrs W a1 len1 ss := by
    obtain ⟨fuel, hf⟩ := h1
    rcases open_strings Try.underlying48 Try.underlying9 (by kernel_rfl) hf with ⟨hcs, _⟩ | ⟨x, l, c, zs, hcs, _, hl, hm, hz, _, hcell, hwz⟩
    · simp [Value.cells] at hcs
      obtain ⟨rfl, rfl, rfl⟩ := hcs
      exact ⟨[], Or.inl rfl⟩
    · simp [Value.cells] at hcs
      obtain ⟨rfl, rfl, rfl⟩ := hcs
      unfold maxLen at hm hwz
      refine ⟨zs, Or.inr ⟨_, rfl, ?_, ?_, hcell⟩⟩
      · simp at hz; omega
      · omega
  clear hA0 hval0
  have hwk := walk s0 a1 len1 cap1 ss W w1
  refine hwk.mono fun e W' ⟨he, bel⟩ => ?_
  subst he
  exact ⟨_, rfl, _, _, _, [], _, [], hW', trodAll_mk1 (shut_bool Try.underlying4 _), (trodAll_cons_mk (shut_string Try.underlying9 w0) (trodAll_cons_mk (Below.trod laidOut (by kernel_rfl) (of_decide_eq_true (by kernel_rfl)) k1 bel lt1) trodAll_mk0)), rfl, bel.frame _, fun h => by cases h⟩

theorem over : Rows.ladderWeakRow.holds Try.pinned (OpenSpec.ofChange Rows.ladderWeakSpec) :=
  OpenClaim.holds_of_wide 8 Try.f8 rfl rfl rfl rfl rfl rfl rfl ⟨rfl, rfl, rfl, rfl, rfl⟩ rfl rfl rfl rfl rfl (by kernel_rfl) Try.func8 (by kernel_rfl)
    (of_decide_eq_true (by kernel_rfl)) (by unfold Func.isWrapper; first | (rw [if_pos (by decide +kernel)]; kernel_rfl) | (rw [if_neg (by decide +kernel)]; exact ⟨rfl, rfl⟩))
    (fun os started H enc _ => lifted os started H enc)

theorem proved : Rows.LadderWeakSaid := over
#print axioms proved
end Go.Proofs.Ytcglobpklhkebaa.LawWeak
