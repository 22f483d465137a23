/-
  Wrap of package phrase answers the lines that the plain mathematics of the text Phr says, and leaves all memory that was there as it was. Conditions: that numbers and lengths fit; that the variable MaxLen of Go's library holds some int.
-/
import Derived.Test.YthlhhmhldpmpiaaDoorPhrN
import Derived.Test.YthlhhmhldpmpiaaDoorPhrO
namespace Go.Proofs.YthlhhmhldpmpiaaDoor.Phr
open Go.RowKit Mur
set_option maxRecDepth 100000

/-- Slices of texts, as they are read. -/
def StrsR (w : World) (a : Option Addr) (l : List ByteArray) : Prop := l.length ≠ 0 → ∃ b o, a = some ⟨b, o, none⟩ ∧ b < w.heap.size ∧ ∀ i x, l[i]? = some x → w.cell? ⟨b, o + i, none⟩ = some (.string x)
theorem StrsR.below {w w' : World} {a : Option Addr} {l : List ByteArray} (h : StrsR w a l) (k : Below w.heap.size w w') : StrsR w' a l := fun hl => by
  obtain ⟨b, o, ha, hb, hc⟩ := h hl
  exact ⟨b, o, ha, Nat.lt_of_lt_of_le hb k.size, fun i x hx => (k.cell (p := ⟨b, o + i, none⟩) hb).trans (hc i x hx)⟩
theorem StrsR.own {w : World} {base n : Nat} {v : Value} {l : List ByteArray} (h : w.ownsRow base 9 1 v n (Strs.strsV l)) : ∃ ao c, v = .slice ao n c ∧ n = l.length ∧ StrsR w ao l := by
  rcases Strs.own_cases h with ⟨rfl, h1, h2⟩ | ⟨g, c, rfl, h1, h2, h3, h4⟩
  · subst h1
    have : l.length = 0 := by rw [← Strs.strsV_length, h2]; rfl
    exact ⟨none, 0, rfl, this.symm, fun h => absurd this h⟩
  · refine ⟨_, c, rfl, by rw [h4, Strs.strsV_length], fun _ => ⟨g, 0, rfl, h2, fun i x hx => ?_⟩⟩
    rw [Nat.zero_add]
    exact Strs.own_cell h i _ (Strs.strsV_at hx)

theorem splitlines_any (ls : List (List Nat)) (T : ByteArray) (u : World) (hT : T = tx (written ls)) (h : ∀ l ∈ ls, ∀ c ∈ l, may c = true) (hs : T.size < 4294967281) (hc : Lim u) :
    Calls Tryd.prog 56 #[.string T, .string ⟨#[10]⟩] u fun e w' => e = .returned (.slice (some ⟨u.heap.size, 0, none⟩) (ls.length + 1) (ls.length + 1)) ∧ w' = u.alloc (.cells ((⟨#[]⟩ :: wordsT ls).map Value.string).toArray 9) := by
  obtain ⟨m, hm⟩ := hc
  have := Any.strings_Split Tryd.lays146 (by kernel_rfl) T ⟨#[10]⟩ m u hs hm (by decide)
  rw [hT] at this ⊢
  obtain ⟨h1, h2⟩ := parts_written ls h
  rw [h1, h2] at this
  exact this

set_option maxHeartbeats 6400000 in
theorem wrap_any (s : ByteArray) (wd : Int) (w : World) (L : List (List Nat)) (hL : L = wrap wd (rs s.data.toList)) (h1 : -9223372036854775808 ≤ wd) (h2 : wd ≤ 9223372036854775807) (hs : s.size ≤ 400) (hc : Lim w) :
    Calls Tryd.prog 35 #[.string s, .int .i64 wd] w fun e w' => ∃ ao c, e = .returned (.slice ao L.length c) ∧ StrsR w' ao (wordsT L) ∧ Below w.heap.size w w' := by
  by_cases hwd : wd < 1
  · have hd : decide (wd < 1) = true := decide_eq_true hwd
    obtain rfl : L = [] := by rw [hL, wrap, if_pos hwd]
    clear hL h1 h2 hs hc hwd
    go_enter Tryd.func35, Tryd.ntmps35
    go_wp2
    go_ret
    exact ⟨none, 0, rfl, fun h => absurd rfl h, Below.refl _ _⟩
  · have hd : decide (wd < 1) = false := decide_eq_false hwd
    obtain ⟨m, hm⟩ : ∃ m : Nat, m = wd.toNat := ⟨_, rfl⟩
    have hm0 : 0 < m := by omega
    have hwm : wd = (m : Int) := by omega
    obtain ⟨W, hW⟩ : ∃ W, W = split (rs s.data.toList) := ⟨_, rfl⟩
    have R1 := Lib.hid (fun u => split_any s u W hW (by omega))
    have hrl : (rs s.data.toList).length ≤ 400 := Nat.le_trans (rs_length _) hs
    have hcnt : W.length ≤ 401 := by
      have := split_count (rs s.data.toList)
      rw [hW]
      omega
    have hWm : ∀ v ∈ W, v ≠ [] ∧ (∀ c ∈ v, may c = true) ∧ (text v).length ≤ 1000 := fun v hv => by
      rw [hW] at hv
      have h1 := split_words (fun c => may c = true) (rs s.data.toList) (rs_may _) v hv
      have h2 := split_lengths (rs s.data.toList) v hv
      exact ⟨h1.1, fun c hc => (h1.2 c hc).2, by omega⟩
    have hLp : L = wrapP m [] (W.flatMap (pieces m)) := by
      rw [hL, wrap, if_neg hwd, ← hm, ← hW]
      exact wrapGo_pieces m hm0 W [] fun v hv => (hWm v hv).1
    have hLm : ∀ l ∈ L, ∀ c ∈ l, may c = true := by
      rw [hL, wrap, if_neg hwd, ← hm, ← hW]
      exact wrapGo_may (fun c => may c = true) (by decide) m hm0 W [] (fun c hc => by cases hc) fun v hv => ⟨(hWm v hv).1, (hWm v hv).2.1⟩
    have HLP := Lib.hid hLp
    have HLM := Lib.hid hLm
    have HWM := Lib.hid hWm
    have HLIM := Lib.hid (fun (u : World) (hb : Below w.heap.size w u) => hc.below hb)
    have HM := Lib.hid hm0
    obtain ⟨n, hn⟩ : ∃ n, n = W.length := ⟨_, rfl⟩
    have HN := Lib.hid hn
    rw [← hn] at R1 hcnt
    rw [hwm] at hd h2
    subst hwm
    clear hL hWm hLp hLm hc hm hm0 hwd hrl hW h1 hs hn
    go_enter Tryd.func35, Tryd.ntmps35
    go_wp2_with fail
    have HBU := Lib.hid (Lib.IsBuilderF.of (Use.builder_new w.heap.size w.heap.size _ (Nat.le_refl _) (_root_.Go.heap_alloc_new w (.cells #[.pointer none, .slice none 0 0] 45))))
    have HW := Lib.hid ((Below.refl w.heap.size w).alloc (Nat.le_refl _) (.cells #[.pointer none, .slice none 0 0] 45))
    have hbs : w.heap.size < (w.alloc (.cells #[.pointer none, .slice none 0 0] 45)).heap.size := by simp
    generalize w.alloc (.cells #[.pointer none, .slice none 0 0] 45) = w1 at *
    refine (R1.out _).mono ?_
    rintro e w2 ⟨v, rfl, hown, hb2⟩
    have HBU2 := Lib.hid (Use.builderF_below HBU.out hb2)
    have HW2 := Lib.hid (HW.out.trans (hb2.mono HW.out.size))
    have HO2 := Lib.hid hown
    obtain ⟨ao, c, rfl, -, -, -⟩ := Strs.own_slice hown
    clear hb2 hown HBU HW R1
    go_wp2_with fail
    go_loopg [6, 18] n (fun gk lf i wr => ∃ (k : Nat) (acc : List (List Nat)) (line : List Nat), k + gk = n ∧ i = .int .i64 k ∧ lf = .int .i64 (room m line) ∧ line.length ≤ m ∧ L = acc ++ wrapP m line ((W.drop k).flatMap (pieces m)) ∧ (written (acc ++ begun line)).length ≤ 2001 * (1000 * k) ∧ wr.ownsRow w1.heap.size 9 1 (.slice ao n c) n (Strs.strsV (wordsT W)) ∧ Lib.IsBuilderF 45 5 w.heap.size w.heap.size (Lib.byteCells (written (acc ++ begun line))) wr ∧ Below w.heap.size w wr)
    case atStart => exact ⟨0, [], [], by omega, rfl, rfl, Nat.zero_le _, HLP.out, Nat.zero_le _, HO2.out, HBU2.out, HW2.out⟩
    case round =>
      clear HO2 HBU2 HW2 HLP
      obtain ⟨k, acc, line, hk, rfl, rfl, hll, hLt, hwl, hown, hbu, hbel⟩ := hrel
      have HO := Lib.hid hown
      have HBU := Lib.hid hbu
      have HW := Lib.hid hbel
      have HLT := Lib.hid hLt
      have HLL := Lib.hid hll
      have HWL := Lib.hid hwl
      clear hbu hbel hLt hll hwl
      by_cases hlt : k < n
      · obtain ⟨g', rfl⟩ : ∃ g', gk = g' + 1 := ⟨gk - 1, by omega⟩
        obtain ⟨v, hv⟩ : ∃ v, W[k]? = some v := ⟨_, List.getElem?_eq_getElem (show k < W.length by have := HN.out; omega)⟩
        have hwv : (Strs.strsV (wordsT W))[k]? = some (.string (tx (text v))) := Strs.strsV_at (by simp [wordsT, hv])
        obtain ⟨ao', c', heq, -, -, hrow⟩ := Strs.own_slice hown
        injection heq with e1 e2 e3
        subst e1
        clear e2 e3
        obtain ⟨g, rfl, hg1, hg2, hcell⟩ := hrow k _ hwv
        obtain ⟨hne, hmv, hlv⟩ := HWM.out v (List.mem_of_getElem? hv)
        obtain ⟨ps, hps⟩ : ∃ ps, ps = pieces m v := ⟨_, rfl⟩
        obtain ⟨rest, hrest⟩ : ∃ rest, rest = (W.drop (k + 1)).flatMap (pieces m) := ⟨_, rfl⟩
        have hLt2 : L = acc ++ wrapP m line (ps ++ rest) := by
          rw [HLT.out, hps, hrest, show W.drop k = v :: W.drop (k + 1) by
            obtain ⟨hk2, rfl⟩ := List.getElem?_eq_some_iff.1 hv
            exact List.drop_eq_getElem_cons hk2]
          rfl
        have R2 := Lib.hid (fun u => pieces_any (tx (text v)) v (m : Int) u ps (runes_text v hmv) (by rw [hps, Int.toNat_natCast]) (by have := HM.out; omega) h2 hlv)
        have hpf : ∀ p ∈ ps, p ≠ [] ∧ p.length ≤ m ∧ (∀ c ∈ p, may c = true) ∧ (text p).length ≤ 2000 := fun p hp => by
          rw [hps] at hp
          obtain ⟨q1, q2, q4, q3⟩ := pieces_facts m HM.out v.length v (Nat.le_refl _) p hp
          have q5 := (text_length p).2
          have q6 := (text_length v).1
          exact ⟨q1, q2, fun c hc => hmv c (q3 c hc), by omega⟩
        have hpl : ps.length ≤ 1000 := by
          have q1 := pieces_length m HM.out v.length v (Nat.le_refl _)
          have q2 := (text_length v).1
          rw [hps]
          omega
        have HPF := Lib.hid hpf
        have HREST := Lib.hid hrest
        have HLT2 := Lib.hid hLt2
        generalize tx (text v) = V at *
        clear hne hmv hlv hps hrest hLt2 hpf hv hwv hrow hown HLT
        go_wp2_with fail
        refine (R2.out _).mono ?_
        rintro e w3 ⟨vp, rfl, hownp, hb3⟩
        have HO3 := Lib.hid (Strs.own_below HO.out hb3)
        have HBU3 := Lib.hid (Use.builderF_below HBU.out hb3)
        have HW3 := Lib.hid (HW.out.trans (hb3.mono HW.out.size))
        have HP3 := Lib.hid (Strs.own_mono hownp (base' := w1.heap.size) (by omega))
        obtain ⟨ap, cp, rfl, -, -, -⟩ := Strs.own_slice hownp
        clear hb3 hownp hcell HO HBU HW
        go_wp2_with fail
        obtain ⟨wo, rfl⟩ : ∃ wo, wo = wr := ⟨wr, rfl⟩
        obtain ⟨np, hnp⟩ : ∃ np, np = ps.length := ⟨_, rfl⟩
        have HNP := Lib.hid hnp
        rw [← hnp] at HP3 hpl ⊢
        clear hnp
        go_loopg [6, 26] np (fun gk lf i wr => ∃ (j : Nat) (acc : List (List Nat)) (line : List Nat), j + gk = np ∧ i = .int .i64 j ∧ lf = .int .i64 (room m line) ∧ line.length ≤ m ∧ L = acc ++ wrapP m line (ps.drop j ++ rest) ∧ (written (acc ++ begun line)).length ≤ 2001 * (1000 * k + j) ∧ wr.ownsRow w1.heap.size 9 1 (.slice (some ⟨g, 0, none⟩) n c) n (Strs.strsV (wordsT W)) ∧ wr.ownsRow w1.heap.size 9 1 (.slice ap np cp) np (Strs.strsV (wordsT ps)) ∧ Lib.IsBuilderF 45 5 w.heap.size w.heap.size (Lib.byteCells (written (acc ++ begun line))) wr ∧ Below w.heap.size w wr)
        case atStart => exact ⟨0, acc, line, by omega, rfl, rfl, HLL.out, HLT2.out, HWL.out, HO3.out, HP3.out, HBU3.out, HW3.out⟩
        case round =>
          clear HO3 HP3 HBU3 HW3 HLL HWL HLT2
          clear acc line
          obtain ⟨j, acc, line, hj, rfl, rfl, hll, hLt, hwl, hown, hownp, hbu, hbel⟩ := hrel
          have HO := Lib.hid hown
          have HP := Lib.hid hownp
          have HBU := Lib.hid hbu
          have HW := Lib.hid hbel
          have HLT := Lib.hid hLt
          have HLL := Lib.hid hll
          have HWL := Lib.hid hwl
          clear hown hbu hbel hLt hll hwl
          by_cases hlt2 : j < np
          · obtain ⟨gi, rfl⟩ : ∃ gi, gk = gi + 1 := ⟨gk - 1, by omega⟩
            obtain ⟨p, hp⟩ : ∃ p, ps[j]? = some p := ⟨_, List.getElem?_eq_getElem (show j < ps.length by have := HNP.out; omega)⟩
            have hwv : (Strs.strsV (wordsT ps))[j]? = some (.string (tx (text p))) := Strs.strsV_at (by simp [wordsT, hp])
            obtain ⟨ao', c', heq, -, -, hrow⟩ := Strs.own_slice hownp
            injection heq with e1 e2 e3
            subst e1
            clear e2 e3
            obtain ⟨gp, rfl, hg1, hg2, hcell⟩ := hrow j _ hwv
            obtain ⟨hpne, hpm, hpmay, hpl2⟩ := HPF.out p (List.mem_of_getElem? hp)
            have hdrop : ps.drop j = p :: ps.drop (j + 1) := by
              obtain ⟨hk2, rfl⟩ := List.getElem?_eq_some_iff.1 hp
              exact List.drop_eq_getElem_cons hk2
            obtain ⟨V, hV⟩ : ∃ V, V = tx (text p) := ⟨_, rfl⟩
            have R3 := Lib.hid (fun u => runecount_any V p (p.length : Int) u (by rw [hV]; exact runes_text p hpmay) rfl (by rw [hV, tx_size]; omega))
            rw [← hV] at hcell
            have hVl : V.data.toList = text p := by rw [hV]
            have hVs : V.size ≤ 2000 := by rw [hV, tx_size]; exact hpl2
            have HVL := Lib.hid hVl
            have HDROP := Lib.hid hdrop
            have HPNE := Lib.hid hpne
            have HPL2 := Lib.hid hpl2
            have HPM := Lib.hid hpm
            clear hV hVl hdrop hpne hpl2 hp hwv hrow hownp hpmay
            by_cases hcond : line ≠ [] ∧ line.length + 1 + p.length ≤ m
            · have hr : room m line = (m : Int) - (line.length : Int) := by rw [room, if_neg hcond.1]
              have hd2 : decide ((p.length : Int) < room m line) = true := decide_eq_true (by rw [hr]; omega)
              have hr2 : room m (line ++ 32 :: p) = room m line - ((p.length : Int) + 1) := by
                rw [hr, room, if_neg (by simp), List.length_append, List.length_cons]
                omega
              have HR2 := Lib.hid hr2
              have hrb : 0 ≤ room m line ∧ room m line ≤ m := by rw [hr]; omega
              have HL2 := Lib.hid (show L = acc ++ wrapP m (line ++ 32 :: p) (ps.drop (j + 1) ++ rest) by rw [HLT.out, HDROP.out, List.cons_append, wrapP_on m line p _ hcond])
              have HLL2 := Lib.hid (show (line ++ 32 :: p).length ≤ m by rw [List.length_append, List.length_cons]; omega)
              have HWO := Lib.hid (written_on acc line p hcond.1)
              have hlt3 : (p.length : Int) < room m line := by rw [hr]; omega
              generalize room m line = rm at *
              have hrm1 := hrb.1
              have hrm2 := hrb.2
              generalize hpn : p.length = pn at *
              clear hr hr2 hrb hcond
              have HPN := Lib.hid hpn
              clear hpn
              go_wp2_with fail
              refine (R3.out _).mono ?_
              rintro e w4 ⟨rfl, hb4⟩
              have HO4 := Lib.hid (Strs.own_below HO.out hb4)
              have HP4 := Lib.hid (Strs.own_below HP.out hb4)
              have HBU4 := Lib.hid (Use.builderF_below HBU.out hb4)
              have HW4 := Lib.hid (HW.out.trans (hb4.mono HW.out.size))
              clear hb4 hcell HO HP HBU HW
              go_wp2_with fail
              refine (Use.write_k w.heap.size w.heap.size (written (acc ++ begun line)) ⟨#[32]⟩ _ HBU4.out (by have := HWL.out; show _ + 1 ≤ _; omega) HW4.out.size).mono ?_
              rintro e w5 ⟨rfl, hbu5, hb5, hk5⟩
              have HBU5 := Lib.hid hbu5
              have HO5 := Lib.hid (row_keptK HO4.out hk5 hbs)
              have HP5 := Lib.hid (row_keptK HP4.out hk5 hbs)
              have HW5 := Lib.hid (HW4.out.trans hb5)
              clear hbu5 hb5 hk5 HO4 HP4 HBU4 HW4
              go_wp2_with fail
              refine (Use.write_k w.heap.size w.heap.size (written (acc ++ begun line) ++ [32]) V _ HBU5.out (by have := HWL.out; rw [List.length_append]; show _ + 1 + _ ≤ _; omega) HW5.out.size).mono ?_
              rintro e w6 ⟨rfl, hbu6, hb6, hk6⟩
              rw [HVL.out, ← HWO.out] at hbu6
              have HBU6 := Lib.hid hbu6
              have HO6 := Lib.hid (row_keptK HO5.out hk6 hbs)
              have HP6 := Lib.hid (row_keptK HP5.out hk6 hbs)
              have HW6 := Lib.hid (HW5.out.trans hb6)
              have HWL6 := Lib.hid (show (written (acc ++ begun (line ++ 32 :: p))).length ≤ 2001 * (1000 * k + (j + 1)) by
                rw [HWO.out, List.length_append, List.length_append]
                have := HWL.out
                have := HPL2.out
                show _ + 1 + _ ≤ _
                omega)
              clear hbu6 hb6 hk6 HO5 HP5 HBU5 HW5
              go_wp2
              go_roundg gi
              case measure => omega
              case rel => exact ⟨j + 1, acc, (line ++ 32 :: p), by omega, by go_num, by rw [HR2.out], HLL2.out, HL2.out, HWL6.out, HO6.out, HP6.out, HBU6.out, HW6.out⟩
            · have hd2 : decide ((p.length : Int) < room m line) = false := by
                refine decide_eq_false ?_
                unfold room
                split
                · omega
                · rename_i hne
                  rintro hh
                  exact hcond ⟨hne, by omega⟩
              have hr2 : room m p = (m : Int) - (p.length : Int) := by rw [room, if_neg HPNE.out]
              have HR2 := Lib.hid hr2
              have HL2 := Lib.hid (show L = (acc ++ begun line) ++ wrapP m p (ps.drop (j + 1) ++ rest) by rw [HLT.out, HDROP.out, List.cons_append, wrapP_new m line p _ hcond, List.append_assoc])
              have HLL2 := Lib.hid (show p.length ≤ m from hpm)
              have HWO := Lib.hid (written_new acc line p HPNE.out)
              generalize room m line = rm at *
              generalize hpn : p.length = pn at *
              have hr : True := trivial
              have hrb : True := trivial
              clear hr hr2 hrb hcond
              have HPN := Lib.hid hpn
              clear hpn
              go_wp2_with fail
              refine (R3.out _).mono ?_
              rintro e w4 ⟨rfl, hb4⟩
              have HO4 := Lib.hid (Strs.own_below HO.out hb4)
              have HP4 := Lib.hid (Strs.own_below HP.out hb4)
              have HBU4 := Lib.hid (Use.builderF_below HBU.out hb4)
              have HW4 := Lib.hid (HW.out.trans (hb4.mono HW.out.size))
              clear hb4 hcell HO HP HBU HW
              go_wp2_with fail
              refine (Use.write_k w.heap.size w.heap.size (written (acc ++ begun line)) ⟨#[10]⟩ _ HBU4.out (by have := HWL.out; show _ + 1 ≤ _; omega) HW4.out.size).mono ?_
              rintro e w5 ⟨rfl, hbu5, hb5, hk5⟩
              have HBU5 := Lib.hid hbu5
              have HO5 := Lib.hid (row_keptK HO4.out hk5 hbs)
              have HP5 := Lib.hid (row_keptK HP4.out hk5 hbs)
              have HW5 := Lib.hid (HW4.out.trans hb5)
              clear hbu5 hb5 hk5 HO4 HP4 HBU4 HW4
              go_wp2_with fail
              refine (Use.write_k w.heap.size w.heap.size (written (acc ++ begun line) ++ [10]) V _ HBU5.out (by have := HWL.out; rw [List.length_append]; show _ + 1 + _ ≤ _; omega) HW5.out.size).mono ?_
              rintro e w6 ⟨rfl, hbu6, hb6, hk6⟩
              rw [HVL.out, ← HWO.out] at hbu6
              have HBU6 := Lib.hid hbu6
              have HO6 := Lib.hid (row_keptK HO5.out hk6 hbs)
              have HP6 := Lib.hid (row_keptK HP5.out hk6 hbs)
              have HW6 := Lib.hid (HW5.out.trans hb6)
              have HWL6 := Lib.hid (show (written ((acc ++ begun line) ++ begun p)).length ≤ 2001 * (1000 * k + (j + 1)) by
                rw [HWO.out, List.length_append, List.length_append]
                have := HWL.out
                have := HPL2.out
                show _ + 1 + _ ≤ _
                omega)
              clear hbu6 hb6 hk6 HO5 HP5 HBU5 HW5
              go_wp2
              go_roundg gi
              case measure => omega
              case rel => exact ⟨j + 1, (acc ++ begun line), p, by omega, by go_num, by rw [HR2.out], by rw [HPN.out]; exact HLL2.out, HL2.out, HWL6.out, HO6.out, HP6.out, HBU6.out, HW6.out⟩
          · obtain rfl : gk = 0 := by omega
            obtain rfl : j = np := by omega
            have hdr : ps.drop j = [] := List.drop_eq_nil_of_le (by have := HNP.out; omega)
            have HLT2 := Lib.hid (show L = acc ++ wrapP m line ((W.drop (k + 1)).flatMap (pieces m)) by rw [HLT.out, hdr, HREST.out]; rfl)
            have HWL2 := Lib.hid (show (written (acc ++ begun line)).length ≤ 2001 * (1000 * (k + 1)) by have := HWL.out; omega)
            clear hdr hownp
            go_wp2
            go_roundg g'
            case measure => omega
            case rel => exact ⟨k + 1, acc, line, by omega, by go_num, rfl, HLL.out, HLT2.out, HWL2.out, HO.out, HBU.out, HW.out⟩
      · obtain rfl : gk = 0 := by omega
        obtain rfl : k = n := by omega
        have hLe : L = acc ++ begun line := by
          rw [HLT.out, List.drop_eq_nil_of_le (by have := HN.out; omega), List.flatMap_nil, wrapP_nil]
        rw [← hLe] at HBU HWL
        obtain ⟨T, hT⟩ : ∃ T, T = tx (written L) := ⟨_, rfl⟩
        have R5 := Lib.hid (fun u hu => splitlines_any L T u hT HLM.out (by
          have := HWL.out
          rw [hT, tx_size]
          omega) hu)
        have R4 := Lib.hid (show Calls Tryd.prog 46 #[.pointer (some ⟨w.heap.size, 0, none⟩)] wr fun e w' => e = .returned (.string T) ∧ Below w.heap.size wr w' from by
          rw [hT]
          exact (Use.string_f w.heap.size w.heap.size (written L) _ HBU.out HW.out.size).mono fun e w' k => ⟨k.1, k.2.2⟩)
        have HW7 := Lib.hid HW.out
        clear hown hT HBU HWL HLT hLe HO
        go_wp2_with fail
        refine R4.out.mono ?_
        rintro e w4 ⟨rfl, hb4⟩
        have HW4 := Lib.hid (HW7.out.trans hb4)
        clear hb4
        go_wp2_with fail
        refine (R5.out _ (HLIM.out _ HW4.out)).mono ?_
        rintro e w5 ⟨rfl, rfl⟩
        have HW8 := Lib.hid (HW4.out.alloc HW4.out.size (.cells ((⟨#[]⟩ :: wordsT L).map Value.string).toArray 9))
        have HST := Lib.hid (show StrsR (w4.alloc (.cells ((⟨#[]⟩ :: wordsT L).map Value.string).toArray 9)) (some ⟨w4.heap.size, 1, none⟩) (wordsT L) from fun _ => ⟨w4.heap.size, 1, rfl, by simp, fun i x hx => by
          rw [World.cell?_alloc_new, Nat.add_comm 1 i, List.map_cons, List.getElem?_toArray, List.getElem?_cons_succ, List.getElem?_map, hx]
          rfl⟩)
        by_cases hL0 : L = []
        · subst hL0
          go_wp2
          go_ret
          exact ⟨_, _, rfl, fun h => absurd rfl h, HW8.out⟩
        · go_wp2
          go_ret
          exact ⟨_, _, rfl, HST.out, HW8.out⟩
end Go.Proofs.YthlhhmhldpmpiaaDoor.Phr
