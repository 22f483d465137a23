/-
  The document's own answer for what is read of a slot (Read of layer 18) is what the plain mathematics of the text Frm says; all memory that was there is left as it was. Conditions: a text of no more than 6000 bytes, numbers of 64 bits.
-/
import Derived.Test.YtedgpglldlohfaaGreatDoorRFrL
import Derived.Test.YtedgpglldlohfaaGreatDoorFrX
namespace Go.Proofs.YtedgpglldlohfaaGreatDoor.RFrm
open Go.RowKit Mur Lanes Prt Tap Cel Frm
set_option maxRecDepth 100000
set_option linter.unusedSimpArgs false

theorem op_store_any {P : Program} {ops : Array Oper} {op : Oper} {a : Act} {w w0 : World} {m : List Hold.Blk} {Q : Exit → Act → World → Prop} {i : Nat} {K : Act → World → Prop} {x y : Operand} {ty t : TypeId} {b o : Nat} {v cs v' : List Value} (h : Hold.Hld w0 m w) (k : Nat) (hi : ops[i]? = some op) (hg : op.guard = none) (ho : op.op = .store ty x y) (hx : a.eval x = .pointer (some ⟨b, o, none⟩)) (hy : a.eval y = .agg cs.toArray) (hk : m[k]? = some ⟨b, t, v⟩) (hl : o + cs.length ≤ v.length) (hv : Hold.lay v o cs = v') (h1 : Hold.Single cs) (hr : Hold.TyRow P ty cs.length)
    (hK : ∀ w', Hold.Hld w0 (m.set k ⟨b, t, v'⟩) w' → K (a.put op.dst undef) w') : wpOp P ops Q i K a w := by
  obtain ⟨d, hu, hd, hs⟩ := hr
  subst hv
  unfold wpOp
  simp only [hi]
  rw [if_pos (by simp [Region.wanted, hg])]
  refine .inl ?_
  refine wp_store_mid ty x y ho b o cs.toArray hx hy (by simpa using h.there k hk o cs.length hl) (by simpa using hs) h1 ?_
  exact hK _ (by simpa using h.set k hk o cs)
theorem cut_is (s : ByteArray) (i j : Nat) : s.extract i j = tx ((s.data.toList.drop i).take (j - i)) := by
  apply ByteArray.ext
  apply Array.toList_inj.1
  simp [List.drop_take]
theorem slice_lh (s X : ByteArray) (l h : Nat) (hl : l ≤ h) (hh : h ≤ s.size) (hX : X = tx ((s.data.toList.drop l).take (h - l))) (u : World) : (Instr.slice 9 (.string s) (some (.int .i64 (l : Int))) (some (.int .i64 (h : Int))) none).run Tryz.prog u = .ok (.string X) u := by
  rw [run_slice_string (P := Tryz.prog) u 9 s .i64 .i64 (l : Int) (h : Int) Tryz.underlying9 (by omega) (by omega) (by omega), hX, ← cut_is]
  rfl
theorem slice_lh' (s X : ByteArray) (l h : Nat) (a b : Int) (ha : a = (l : Int)) (hb : b = (h : Int)) (hl : l ≤ h) (hh : h ≤ s.size) (hX : X = tx ((s.data.toList.drop l).take (h - l))) (u : World) : (Instr.slice 9 (.string s) (some (.int .i64 a)) (some (.int .i64 b)) none).run Tryz.prog u = .ok (.string X) u := by
  rw [ha, hb]
  exact slice_lh s X l h hl hh hX u
theorem slice_l (s X : ByteArray) (l : Nat) (hl : l ≤ s.size) (hX : X = tx (s.data.toList.drop l)) (u : World) : (Instr.slice 9 (.string s) (some (.int .i64 (l : Int))) none none).run Tryz.prog u = .ok (.string X) u := by
  rw [run_slice_string_l (P := Tryz.prog) (w := u) (t := 9) (s := s) Tryz.underlying9 .i64 (l : Int) (by omega) (by omega), cut_is]
  have e : s.size - (l : Int).toNat = (s.data.toList.drop l).length := by
    rw [List.length_drop, Array.length_toList]
    rfl
  have e2 : (l : Int).toNat = l := rfl
  rw [e, e2, List.take_length, hX]
theorem slice_l' (s X : ByteArray) (l : Nat) (a : Int) (ha : a = (l : Int)) (hl : l ≤ s.size) (hX : X = tx (s.data.toList.drop l)) (u : World) : (Instr.slice 9 (.string s) (some (.int .i64 a)) none none).run Tryz.prog u = .ok (.string X) u := by
  rw [ha]
  exact slice_l s X l hl hX u
theorem slice_h (s X : ByteArray) (h : Nat) (hh : h ≤ s.size) (hX : X = tx (s.data.toList.take h)) (u : World) : (Instr.slice 9 (.string s) none (some (.int .i64 (h : Int))) none).run Tryz.prog u = .ok (.string X) u := by
  rw [run_slice_string_h (P := Tryz.prog) (w := u) (t := 9) (s := s) Tryz.underlying9 .i64 (h : Int) (by omega) (by omega), cut_is, hX]
  rfl
theorem idx (s : ByteArray) (k : Nat) (h : k < s.size) (u : World) : (Instr.index 9 (.string s) (.int .i64 (k : Int))).run Tryz.prog u = .ok (.int .u8 ((byte s.data.toList k : Nat) : Int)) u := by
  rw [run_index_string (P := Tryz.prog) u 9 s .i64 (k : Int) Tryz.underlying9, dif_pos ⟨by omega, by omega⟩]
  have hl : k < s.data.toList.length := by rw [Array.length_toList]; exact h
  have e : byte s.data.toList k = (s.data.toList[k]).toNat := by
    unfold byte
    rw [List.getD_eq_getElem?_getD, List.getElem?_eq_getElem hl, Option.getD_some]
  rw [e]
  rfl
theorem idx' (s : ByteArray) (k : Nat) (a : Int) (ha : a = (k : Int)) (h : k < s.size) (u : World) : (Instr.index 9 (.string s) (.int .i64 a)).run Tryz.prog u = .ok (.int .u8 ((byte s.data.toList k : Nat) : Int)) u := by
  rw [ha]
  exact idx s k h u
theorem byte_lt (l : List UInt8) (k : Nat) : byte l k < 256 := by
  unfold byte
  exact UInt8.toNat_lt _
theorem take_size (b : List UInt8) (cn gn : Nat) (h : b.length = 3 + cn + gn) : (tx ((b.drop 3).take cn)).size = cn := by
  rw [tx_len, List.length_take, List.length_drop]
  omega
theorem drop_size (b : List UInt8) (cn k : Nat) (h : cn ≤ 16) : (tx (((b.drop 3).take cn).drop k)).size ≤ 16 := by
  rw [tx_len, List.length_drop, List.length_take]
  omega
theorem rest_size (b : List UInt8) (cn gn : Nat) (h : b.length = 3 + cn + gn) (hg : gn ≤ 2000) : (tx (b.drop (3 + cn))).size ≤ 100000 := by
  rw [tx_len, List.length_drop]
  omega
theorem opened_is (t : List UInt8) : opened t = (Frm.hidB (tx ((t.drop 1).take 4)).data.toList (tx (t.drop 5))).data.toList := Eq.refl _
theorem cut3 (BD TX : ByteArray) (b : List UInt8) (cn gn : Nat) (hb : b = BD.data.toList) (zBD : BD.size = 3 + cn + gn) (hTX : TX = tx ((b.drop 3).take cn)) : ∀ u, (Instr.slice 9 (.string BD) (some (.int .i64 3)) (some (.int .i64 (3 + (cn : Int)))) none).run Tryz.prog u = .ok (.string TX) u := fun u => slice_lh' BD TX 3 (3 + cn) 3 (3 + (cn : Int)) rfl (by omega) (by omega) (by omega) (by rw [hTX, hb, Nat.add_sub_cancel_left]) u
theorem cut4 (BD SG : ByteArray) (b : List UInt8) (cn gn : Nat) (hb : b = BD.data.toList) (zBD : BD.size = 3 + cn + gn) (hSG : SG = tx (b.drop (3 + cn))) : ∀ u, (Instr.slice 9 (.string BD) (some (.int .i64 (3 + (cn : Int)))) none none).run Tryz.prog u = .ok (.string SG) u := fun u => slice_l' BD SG (3 + cn) (3 + (cn : Int)) (by omega) (by omega) (by rw [hSG, hb]) u
theorem i64_in (z : Int) (h1 : 0 ≤ z) (h2 : z < 1000) : IntKind.i64.wrap z = z := by
  first
  | exact IntWalk.wrap64_in z (by omega)
  | (rw [IntKind.wrap_i64]; omega)
  | (simp [IntKind.wrap, IntKind.bits, IntKind.signed]; omega)
theorem nlt16 {n : Nat} (h : ¬ 16 < n) : ¬ (16 : Int) < (n : Int) := by omega
theorem say_lt (x : SayB) (k : Nat) (h : k < 4) : k < (sayV x).length := h
theorem tx_back (l : List UInt8) : (tx l).data.toList = l := rfl
theorem built_none : Tryz.prog.built 38 [] = some (sayV zeroX).toArray := by kernel_rfl
theorem nothing_is : ofSay nothing = zeroX := rfl

set_option maxHeartbeats 25600000 in
theorem read_ref (t : ByteArray) (c g : Int) (Y : SayB) (E : Int) (w : World) (hY : Y = ofSay (readX t.data.toList c g)) (hE : E = readE t.data.toList c g) (_ : t.size ≤ 6000) (hc : InR c) (hs : InR g) :
    Calls Tryz.prog 24 #[.string t, .int .i64 c, .int .i64 g] w fun z w' => z = .returned (.tuple #[.agg (sayV Y).toArray, .int .i64 E]) ∧ Below w.heap.size w w' := by
  obtain ⟨w0, hw0⟩ : ∃ w0, w0 = w := ⟨w, rfl⟩
  subst hw0
  obtain ⟨G, hG⟩ : ∃ G, G = Frm.long c g := ⟨_, rfl⟩
  have RL := Lib.hid (fun u => show Calls Tryz.prog 20 #[.int .i64 c, .int .i64 g] u fun z w' => z = .returned (.int .i64 G) ∧ Below u.heap.size u w' from by rw [hG]; exact long_ref c g u hc hs)
  have HM := Lib.hid (Hold.Hld.start w0)
  have HE := Lib.hid hE
  clear hE
  have hbad : ∀ e, readE t.data.toList c g = e → e ≠ 0 → Y = zeroX := fun e h1 h2 => by rw [hY, none_is _ _ _ (by rw [h1]; exact h2), nothing_is]
  by_cases A0 : G = 0
  · have d0 : ((G : Int) == 0) = true := by rw [A0]; rfl
    have h1 : readE t.data.toList c g = 1 := by unfold readE; rw [← hG, if_pos A0]
    obtain rfl : E = 1 := by rw [HE.out, h1]
    obtain rfl := hbad 1 h1 (by decide)
    clear hY HE hbad h1 hG hc hs
    go_enter Tryz.func24, Tryz.ntmps24
    go_wp2_with ((first
      | ((with_reducible refine Hold.alloc HM.out rfl rfl zeroS zero_said ?_); clear HM; intro b6 w HM; simp only [List.nil_append, List.cons_append] at HM; replace HM := Lib.hid HM)
      | ((with_reducible refine (RL.out _).mono ?_); rintro e w ⟨rfl, hb⟩; replace HM := Lib.hid (HM.out.next hb); clear hb)
      | ((refine Hold.build (t := 38) (parts := #[]) (cs := sayV zeroX) rfl rfl ?_ ?_); focus (exact built_none))
      | ((with_reducible refine Hold.store HM.out 0 (v' := sayV zeroX) rfl rfl rfl rfl rfl (say_fits zeroX zeroX) (say_laid zeroX zeroX) (say_one zeroX) (sayRow zeroX) ?_); clear HM; intro w HM; simp only [List.set_cons_zero, List.set_cons_succ] at HM; replace HM := Lib.hid HM)))
    refine bodyPost_ret (Hold.resultsCT HM.out 0 rfl _ rfl rfl rfl (sayRow zeroX)) rfl ?_
    exact ⟨rfl, HM.out.below⟩
  have d0 : ((G : Int) == 0) = false := by simpa using A0
  have htl : t.data.toList.length = t.size := rfl
  have hGp : 0 < G ∧ G ≤ 3000 := by
    obtain ⟨c1, c2, s1, s2⟩ := long_out c g (by rw [← hG]; exact A0)
    rw [hG, long_in c g c1 c2 s1 s2]
    omega
  by_cases A1 : (t.size : Int) = G
  case neg =>
    have d1 : ((t.size : Int) != G) = true := by simpa using A1
    have h1 : readE t.data.toList c g = 3 := by unfold readE; rw [← hG, if_neg A0, if_pos (Or.inl (by rw [htl]; exact A1))]
    obtain rfl : E = 3 := by rw [HE.out, h1]
    obtain rfl := hbad 3 h1 (by decide)
    clear hY HE hbad h1 hG hc hs
    go_enter Tryz.func24, Tryz.ntmps24
    go_wp2_with ((first
      | ((with_reducible refine Hold.alloc HM.out rfl rfl zeroS zero_said ?_); clear HM; intro b6 w HM; simp only [List.nil_append, List.cons_append] at HM; replace HM := Lib.hid HM)
      | ((with_reducible refine (RL.out _).mono ?_); rintro e w ⟨rfl, hb⟩; replace HM := Lib.hid (HM.out.next hb); clear hb)
      | ((refine Hold.build (t := 38) (parts := #[]) (cs := sayV zeroX) rfl rfl ?_ ?_); focus (exact built_none))
      | ((with_reducible refine Hold.store HM.out 0 (v' := sayV zeroX) rfl rfl rfl rfl rfl (say_fits zeroX zeroX) (say_laid zeroX zeroX) (say_one zeroX) (sayRow zeroX) ?_); clear HM; intro w HM; simp only [List.set_cons_zero, List.set_cons_succ] at HM; replace HM := Lib.hid HM)))
    refine bodyPost_ret (Hold.resultsCT HM.out 0 rfl _ rfl rfl rfl (sayRow zeroX)) rfl ?_
    exact ⟨rfl, HM.out.below⟩
  have d1 : ((t.size : Int) != G) = false := by simpa using A1
  obtain ⟨x0, hx0⟩ : ∃ x, x = byte t.data.toList 0 := ⟨_, rfl⟩
  have HX0 := Lib.hid hx0
  clear hx0
  have i0 : ∀ u, (Instr.index 9 (.string t) (.int .i64 0)).run Tryz.prog u = .ok (.int .u8 (x0 : Int)) u := fun u => by rw [HX0.out]; exact idx' t 0 0 rfl (by omega) u
  have I0 := Lib.hid i0
  clear i0
  by_cases A2 : x0 = 1
  case neg =>
    have d2 : ((x0 : Int) != 1) = true := by simp; omega
    have h1 : readE t.data.toList c g = 3 := by unfold readE; rw [← hG, if_neg A0, if_pos (Or.inr (by rw [← HX0.out]; exact A2))]
    obtain rfl : E = 3 := by rw [HE.out, h1]
    obtain rfl := hbad 3 h1 (by decide)
    have i0 := I0.out
    clear hY HE hbad h1 hG hc hs
    go_enter Tryz.func24, Tryz.ntmps24
    go_wp2_with ((first
      | ((with_reducible refine Hold.alloc HM.out rfl rfl zeroS zero_said ?_); clear HM; intro b6 w HM; simp only [List.nil_append, List.cons_append] at HM; replace HM := Lib.hid HM)
      | ((with_reducible refine (RL.out _).mono ?_); rintro e w ⟨rfl, hb⟩; replace HM := Lib.hid (HM.out.next hb); clear hb)
      | ((refine Hold.build (t := 38) (parts := #[]) (cs := sayV zeroX) rfl rfl ?_ ?_); focus (exact built_none))
      | ((with_reducible refine Hold.store HM.out 0 (v' := sayV zeroX) rfl rfl rfl rfl rfl (say_fits zeroX zeroX) (say_laid zeroX zeroX) (say_one zeroX) (sayRow zeroX) ?_); clear HM; intro w HM; simp only [List.set_cons_zero, List.set_cons_succ] at HM; replace HM := Lib.hid HM)))
    refine bodyPost_ret (Hold.resultsCT HM.out 0 rfl _ rfl rfl rfl (sayRow zeroX)) rfl ?_
    exact ⟨rfl, HM.out.below⟩
  have d2 : ((x0 : Int) != 1) = false := by rw [A2]; rfl
  obtain ⟨cn, gn, hcn, hgn, c1, c2, s2⟩ : ∃ cn gn : Nat, c = (cn : Int) ∧ g = (gn : Int) ∧ 1 ≤ cn ∧ cn ≤ 16 ∧ gn ≤ 2000 := by
    obtain ⟨c1, c2, s1, s2⟩ := long_out c g (by rw [← hG]; exact A0)
    exact ⟨c.toNat, g.toNat, by omega, by omega, by omega, by omega, by omega⟩
  subst hcn hgn
  have hts : t.size = 8 + cn + gn := by
    rw [hG, long_in (cn : Int) (gn : Int) (by omega) (by omega) (by omega) (by omega)] at A1
    omega
  have HG := Lib.hid hG
  clear hG
  obtain ⟨SD, hSD⟩ : ∃ D, D = tx ((t.data.toList.drop 1).take 4) := ⟨_, rfl⟩
  obtain ⟨RS, hRS⟩ : ∃ D, D = tx (t.data.toList.drop 5) := ⟨_, rfl⟩
  obtain ⟨BD, hBD⟩ : ∃ D, D = Frm.hidB SD.data.toList RS := ⟨_, rfl⟩
  have zSD : SD.size ≤ 4 := by rw [hSD, tx_len, List.length_take]; omega
  have zRS : RS.size = 3 + cn + gn := by rw [hRS, tx_len, List.length_drop, htl]; omega
  have zBD : BD.size = 3 + cn + gn := by rw [hBD, Frm.hidB_size, zRS]
  have hop : opened t.data.toList = BD.data.toList := by
    rw [opened_is, hBD, hSD, hRS]
  have HTL := Lib.hid htl
  clear htl
  obtain ⟨b, hb⟩ : ∃ b, b = BD.data.toList := ⟨_, rfl⟩
  have hbl : b.length = 3 + cn + gn := by rw [hb]; exact zBD
  have hE1 : readE t.data.toList (cn : Int) (gn : Int) = if badForm b (cn : Int) then 3 else 0 := by
    unfold readE
    rw [← HG.out, if_neg A0, if_neg (by rw [HTL.out, ← HX0.out]; rintro (h | h); exact h A1; exact h A2), hop, ← hb]
  have HE1 := Lib.hid hE1
  clear hE1
  obtain ⟨N0, hN0⟩ : ∃ n, n = byte b 0 := ⟨_, rfl⟩
  obtain ⟨N1, hN1⟩ : ∃ n, n = byte b 1 := ⟨_, rfl⟩
  obtain ⟨N2, hN2⟩ : ∃ n, n = byte b 2 := ⟨_, rfl⟩
  have l0 : N0 < 256 := by rw [hN0]; exact byte_lt _ _
  have l1 : N1 < 256 := by rw [hN1]; exact byte_lt _ _
  have l2 : N2 < 256 := by rw [hN2]; exact byte_lt _ _
  have j0 : ∀ u, (Instr.index 9 (.string BD) (.int .i64 0)).run Tryz.prog u = .ok (.int .u8 (N0 : Int)) u := fun u => by rw [hN0, hb]; exact idx' BD 0 0 rfl (by omega) u
  have j1 : ∀ u, (Instr.index 9 (.string BD) (.int .i64 1)).run Tryz.prog u = .ok (.int .u8 (N1 : Int)) u := fun u => by rw [hN1, hb]; exact idx' BD 1 1 rfl (by omega) u
  have j2 : ∀ u, (Instr.index 9 (.string BD) (.int .i64 2)).run Tryz.prog u = .ok (.int .u8 (N2 : Int)) u := fun u => by rw [hN2, hb]; exact idx' BD 2 2 rfl (by omega) u
  have HN0 := Lib.hid hN0
  have HN1 := Lib.hid hN1
  have HN2 := Lib.hid hN2
  clear hN0 hN1 hN2
  have v4 : IntKind.i64.wrap (3 + (cn : Int)) = 3 + (cn : Int) := i64_in _ (by omega) (by omega)
  have v0 : IntKind.i64.wrap (N0 : Int) = (N0 : Int) := i64_in _ (by omega) (by omega)
  have v1 : IntKind.i64.wrap (N1 : Int) = (N1 : Int) := i64_in _ (by omega) (by omega)
  have v2 : IntKind.i64.wrap (N2 : Int) = (N2 : Int) := i64_in _ (by omega) (by omega)
  have v3 : wrap64 (3 + (cn : Int)) = 3 + (cn : Int) := IntWalk.wrap64_in _ (by omega)
  obtain ⟨TX, hTX⟩ : ∃ D, D = tx ((b.drop 3).take cn) := ⟨_, rfl⟩
  have zTX : TX.size = cn := by rw [hTX]; exact take_size b cn gn hbl
  obtain ⟨SG, hSG⟩ : ∃ D, D = tx (b.drop (3 + cn)) := ⟨_, rfl⟩
  have m0 : ∀ u, (Instr.slice 9 (.string t) (some (.int .i64 1)) (some (.int .i64 5)) none).run Tryz.prog u = .ok (.string SD) u := fun u => slice_lh' t SD 1 5 1 5 rfl rfl (by decide) (by omega) hSD u
  have m1 : ∀ u, (Instr.slice 9 (.string t) (some (.int .i64 5)) none none).run Tryz.prog u = .ok (.string RS) u := fun u => slice_l' t RS 5 5 rfl (by omega) hRS u
  have m2 : ∀ u, (Instr.slice 9 (.string BD) (some (.int .i64 3)) (some (.int .i64 (3 + (cn : Int)))) none).run Tryz.prog u = .ok (.string TX) u := cut3 BD TX b cn gn hb zBD hTX
  have m3 : ∀ u, (Instr.slice 9 (.string BD) (some (.int .i64 (3 + (cn : Int)))) none none).run Tryz.prog u = .ok (.string SG) u := cut4 BD SG b cn gn hb zBD hSG
  have RM := Lib.hid (fun u => masked_ref SD RS BD u hBD (by omega) (by omega))
  have hct : ((cn : Int)).toNat = cn := rfl
  have FX := Lib.hid (And.intro I0.out (And.intro m0 (And.intro m1 m2)))
  have FJ := Lib.hid (And.intro j0 (And.intro j1 j2))
  have FV := Lib.hid (And.intro v0 (And.intro v1 v2))
  clear m0 m1 m2 j0 j1 j2 v0 v1 v2
  by_cases A3 : 16 < N0
  · have d3 : decide (16 < (N0 : Int)) = true := decide_eq_true (by omega)
    have h1 : readE t.data.toList (cn : Int) (gn : Int) = 3 := by rw [HE1.out, if_pos (show badForm b (cn : Int) from Or.inl (by rw [← HN0.out]; exact A3))]
    obtain rfl : E = 3 := by rw [HE.out, h1]
    obtain rfl := hbad 3 h1 (by decide)
    try clear hle
    try clear hB1
    try clear hTZ
    clear hY HE hbad h1 HE1 HG hc hs hSD hRS hBD zSD zRS zBD hop hb hbl HN0 HN1 HN2 hTX hSG HTL hGp hts zTX HX0
    go_enter Tryz.func24, Tryz.ntmps24
    obtain ⟨i0, m0, m1, m2⟩ := FX.out
    go_upto_region 8 with ((first
      | ((with_reducible refine Hold.alloc HM.out rfl rfl zeroS zero_said ?_); clear HM; intro b6 w HM; simp only [List.nil_append, List.cons_append] at HM; replace HM := Lib.hid HM)
      | ((with_reducible refine (RL.out _).mono ?_); rintro e w ⟨rfl, hb⟩; replace HM := Lib.hid (HM.out.next hb); clear hb)
      | ((with_reducible refine (RM.out _).mono ?_); rintro e w ⟨rfl, hb⟩; replace HM := Lib.hid (HM.out.next hb); clear hb)))
    clear i0 m0 m1
    obtain ⟨j0, j1, j2⟩ := FJ.out
    obtain ⟨v0, v1, v2⟩ := FV.out
    have HS := Lib.hid (Hold.Hld.drew (show Hold.Hld _ [⟨b6, 38, zeroS⟩] w from HM.out))
    replace HM := Lib.hid HM.out.drew
    refine wp_region_held (S := fun u => Hold.Hld w0 [⟨b6, 38, zeroS⟩] u) (by kernel_rfl) ?_
    change wpAnyH _ _ _ _ _ _ _ _ w.drew
    generalize w.drew = wd at *
    change wpAnyH _ _ _ _ _ (11 + 1) _ _ _
    refine wpAnyH_take (i := 0) (by simp only [List.getElem?_toArray, List.getElem?_cons_succ, List.getElem?_cons_zero]; rfl) (by kernel_rfl) (by kernel_rfl) (by kernel_rfl) (fun _ _ _ h => by exact h) (.inl ⟨by rfl, fun u hu => by go_simp; try with_reducible rfl⟩) HS.out ?_
    try simp only [List.getElem_toArray, List.getElem_cons_succ, List.getElem_cons_zero, Act.put, List.setIfInBounds_toArray, List.set_cons_zero, List.set_cons_succ]
    change wpAnyH _ _ _ _ _ (10 + 1) _ _ _
    refine wpAnyH_take (i := 1) (by simp only [List.getElem?_toArray, List.getElem?_cons_succ, List.getElem?_cons_zero]; rfl) (by kernel_rfl) (by kernel_rfl) (by kernel_rfl) (fun _ _ _ h => by exact h) (.inl ⟨by rfl, fun u hu => by go_simp; try with_reducible rfl⟩) HS.out ?_
    try simp only [List.getElem_toArray, List.getElem_cons_succ, List.getElem_cons_zero, Act.put, List.setIfInBounds_toArray, List.set_cons_zero, List.set_cons_succ]
    change wpAnyH _ _ _ _ _ (9 + 1) _ _ _
    refine wpAnyH_take (i := 2) (by simp only [List.getElem?_toArray, List.getElem?_cons_succ, List.getElem?_cons_zero]; rfl) (by kernel_rfl) (by kernel_rfl) (by kernel_rfl) (fun _ _ _ h => by exact h) (.inl ⟨by rfl, fun u hu => by go_simp; try with_reducible rfl⟩) HS.out ?_
    try simp only [List.getElem_toArray, List.getElem_cons_succ, List.getElem_cons_zero, Act.put, List.setIfInBounds_toArray, List.set_cons_zero, List.set_cons_succ]
    change wpAnyH _ _ _ _ _ (8 + 1) _ _ _
    refine wpAnyH_take (i := 3) (by simp only [List.getElem?_toArray, List.getElem?_cons_succ, List.getElem?_cons_zero]; rfl) (by kernel_rfl) (by kernel_rfl) (by kernel_rfl) (fun _ _ _ h => by exact h) (.inl ⟨by rfl, fun u hu => by go_simp; try with_reducible rfl⟩) HS.out ?_
    try simp only [List.getElem_toArray, List.getElem_cons_succ, List.getElem_cons_zero, Act.put, List.setIfInBounds_toArray, List.set_cons_zero, List.set_cons_succ]
    change wpAnyH _ _ _ _ _ (7 + 1) _ _ _
    refine wpAnyH_take (i := 4) (by simp only [List.getElem?_toArray, List.getElem?_cons_succ, List.getElem?_cons_zero]; rfl) (by kernel_rfl) (by kernel_rfl) (by kernel_rfl) (fun _ _ _ h => by exact h) (.inl ⟨by rfl, fun u hu => by go_simp; try with_reducible rfl⟩) HS.out ?_
    try simp only [List.getElem_toArray, List.getElem_cons_succ, List.getElem_cons_zero, Act.put, List.setIfInBounds_toArray, List.set_cons_zero, List.set_cons_succ]
    change wpAnyH _ _ _ _ _ (6 + 1) _ _ _
    refine wpAnyH_take (i := 5) (by simp only [List.getElem?_toArray, List.getElem?_cons_succ, List.getElem?_cons_zero]; rfl) (by kernel_rfl) (by kernel_rfl) (by kernel_rfl) (fun _ _ _ h => by exact h) (.inl ⟨by rfl, fun u hu => by go_simp; try with_reducible rfl⟩) HS.out ?_
    try simp only [List.getElem_toArray, List.getElem_cons_succ, List.getElem_cons_zero, Act.put, List.setIfInBounds_toArray, List.set_cons_zero, List.set_cons_succ]
    change wpAnyH _ _ _ _ _ (5 + 1) _ _ _
    refine wpAnyH_take (i := 6) (by simp only [List.getElem?_toArray, List.getElem?_cons_succ, List.getElem?_cons_zero]; rfl) (by kernel_rfl) (by kernel_rfl) (by kernel_rfl) (fun _ _ _ h => by exact h) (.inl ⟨by rfl, fun u hu => by go_simp; try with_reducible rfl⟩) HS.out ?_
    try simp only [List.getElem_toArray, List.getElem_cons_succ, List.getElem_cons_zero, Act.put, List.setIfInBounds_toArray, List.set_cons_zero, List.set_cons_succ]
    change wpAnyH _ _ _ _ _ (4 + 1) _ _ _
    refine wpAnyH_take (i := 7) (by simp only [List.getElem?_toArray, List.getElem?_cons_succ, List.getElem?_cons_zero]; rfl) (by kernel_rfl) (by kernel_rfl) (by kernel_rfl) (fun _ _ _ h => by exact h) (.inl ⟨by rfl, fun u hu => by go_simp; try with_reducible rfl⟩) HS.out ?_
    try simp only [List.getElem_toArray, List.getElem_cons_succ, List.getElem_cons_zero, Act.put, List.setIfInBounds_toArray, List.set_cons_zero, List.set_cons_succ]
    change wpAnyH _ _ _ _ _ (3 + 1) _ _ _
    refine wpAnyH_take (i := 8) (by simp only [List.getElem?_toArray, List.getElem?_cons_succ, List.getElem?_cons_zero]; rfl) (by kernel_rfl) (by kernel_rfl) (by kernel_rfl) (fun _ _ _ h => by exact h) (.inl ⟨by rfl, fun u hu => by go_simp; try with_reducible rfl⟩) HS.out ?_
    try simp only [List.getElem_toArray, List.getElem_cons_succ, List.getElem_cons_zero, Act.put, List.setIfInBounds_toArray, List.set_cons_zero, List.set_cons_succ]
    change wpAnyH _ _ _ _ _ (2 + 1) _ _ _
    refine wpAnyH_take (i := 9) (by simp only [List.getElem?_toArray, List.getElem?_cons_succ, List.getElem?_cons_zero]; rfl) (by kernel_rfl) (by kernel_rfl) (by kernel_rfl) (fun _ _ _ h => by exact h) (.inl ⟨by rfl, fun u hu => by go_simp; try with_reducible rfl⟩) HS.out ?_
    try simp only [List.getElem_toArray, List.getElem_cons_succ, List.getElem_cons_zero, Act.put, List.setIfInBounds_toArray, List.set_cons_zero, List.set_cons_succ]
    change wpAnyH _ _ _ _ _ (1 + 1) _ _ _
    refine wpAnyH_take (i := 10) (by simp only [List.getElem?_toArray, List.getElem?_cons_succ, List.getElem?_cons_zero]; rfl) (by kernel_rfl) (by kernel_rfl) (by kernel_rfl) (fun _ _ _ h => by exact h) (.inl ⟨by rfl, fun u hu => by go_simp; try with_reducible rfl⟩) HS.out ?_
    try simp only [List.getElem_toArray, List.getElem_cons_succ, List.getElem_cons_zero, Act.put, List.setIfInBounds_toArray, List.set_cons_zero, List.set_cons_succ]
    change wpAnyH _ _ _ _ _ (0 + 1) _ _ _
    refine wpAnyH_take (i := 11) (by simp only [List.getElem?_toArray, List.getElem?_cons_succ, List.getElem?_cons_zero]; rfl) (by kernel_rfl) (by kernel_rfl) (by kernel_rfl) (fun _ _ _ h => by exact h) (.inl ⟨by rfl, fun u hu => by go_simp; try with_reducible rfl⟩) HS.out ?_
    try simp only [List.getElem_toArray, List.getElem_cons_succ, List.getElem_cons_zero, Act.put, List.setIfInBounds_toArray, List.set_cons_zero, List.set_cons_succ]
    refine wpAnyH_done (by kernel_rfl) ?_ _
    clear j0 j1 j2
    go_wp2_with ((first
      | ((refine Hold.build (t := 38) (parts := #[]) (cs := sayV zeroX) rfl rfl ?_ ?_); focus (exact built_none))
      | ((with_reducible refine Hold.store HM.out 0 (v' := sayV zeroX) rfl rfl rfl rfl rfl (say_fits zeroX zeroX) (say_laid zeroX zeroX) (say_one zeroX) (sayRow zeroX) ?_); clear HM; intro w HM; simp only [List.set_cons_zero, List.set_cons_succ] at HM; replace HM := Lib.hid HM)))
    refine bodyPost_ret (Hold.resultsCT HM.out 0 rfl _ rfl rfl rfl (sayRow zeroX)) rfl ?_
    exact ⟨rfl, HM.out.below⟩
  have d3 : decide (16 < (N0 : Int)) = false := decide_eq_false (nlt16 A3)
  by_cases A4 : cn < N1
  · have d4 : decide ((cn : Int) < (N1 : Int)) = true := decide_eq_true (Int.ofNat_lt.2 A4)
    have h1 : readE t.data.toList (cn : Int) (gn : Int) = 3 := by rw [HE1.out, if_pos (show badForm b (cn : Int) from Or.inr (Or.inl (by rw [← HN1.out]; exact Int.ofNat_lt.2 A4)))]
    obtain rfl : E = 3 := by rw [HE.out, h1]
    obtain rfl := hbad 3 h1 (by decide)
    try clear hle
    try clear hB1
    try clear hTZ
    clear hY HE hbad h1 HE1 HG hc hs hSD hRS hBD zSD zRS zBD hop hb hbl HN0 HN1 HN2 hTX hSG HTL hGp hts zTX HX0
    go_enter Tryz.func24, Tryz.ntmps24
    obtain ⟨i0, m0, m1, m2⟩ := FX.out
    go_upto_region 8 with ((first
      | ((with_reducible refine Hold.alloc HM.out rfl rfl zeroS zero_said ?_); clear HM; intro b6 w HM; simp only [List.nil_append, List.cons_append] at HM; replace HM := Lib.hid HM)
      | ((with_reducible refine (RL.out _).mono ?_); rintro e w ⟨rfl, hb⟩; replace HM := Lib.hid (HM.out.next hb); clear hb)
      | ((with_reducible refine (RM.out _).mono ?_); rintro e w ⟨rfl, hb⟩; replace HM := Lib.hid (HM.out.next hb); clear hb)))
    clear i0 m0 m1
    obtain ⟨j0, j1, j2⟩ := FJ.out
    obtain ⟨v0, v1, v2⟩ := FV.out
    have HS := Lib.hid (Hold.Hld.drew (show Hold.Hld _ [⟨b6, 38, zeroS⟩] w from HM.out))
    replace HM := Lib.hid HM.out.drew
    refine wp_region_held (S := fun u => Hold.Hld w0 [⟨b6, 38, zeroS⟩] u) (by kernel_rfl) ?_
    change wpAnyH _ _ _ _ _ _ _ _ w.drew
    generalize w.drew = wd at *
    change wpAnyH _ _ _ _ _ (11 + 1) _ _ _
    refine wpAnyH_take (i := 0) (by simp only [List.getElem?_toArray, List.getElem?_cons_succ, List.getElem?_cons_zero]; rfl) (by kernel_rfl) (by kernel_rfl) (by kernel_rfl) (fun _ _ _ h => by exact h) (.inl ⟨by rfl, fun u hu => by go_simp; try with_reducible rfl⟩) HS.out ?_
    try simp only [List.getElem_toArray, List.getElem_cons_succ, List.getElem_cons_zero, Act.put, List.setIfInBounds_toArray, List.set_cons_zero, List.set_cons_succ]
    change wpAnyH _ _ _ _ _ (10 + 1) _ _ _
    refine wpAnyH_take (i := 1) (by simp only [List.getElem?_toArray, List.getElem?_cons_succ, List.getElem?_cons_zero]; rfl) (by kernel_rfl) (by kernel_rfl) (by kernel_rfl) (fun _ _ _ h => by exact h) (.inl ⟨by rfl, fun u hu => by go_simp; try with_reducible rfl⟩) HS.out ?_
    try simp only [List.getElem_toArray, List.getElem_cons_succ, List.getElem_cons_zero, Act.put, List.setIfInBounds_toArray, List.set_cons_zero, List.set_cons_succ]
    change wpAnyH _ _ _ _ _ (9 + 1) _ _ _
    refine wpAnyH_take (i := 2) (by simp only [List.getElem?_toArray, List.getElem?_cons_succ, List.getElem?_cons_zero]; rfl) (by kernel_rfl) (by kernel_rfl) (by kernel_rfl) (fun _ _ _ h => by exact h) (.inl ⟨by rfl, fun u hu => by go_simp; try with_reducible rfl⟩) HS.out ?_
    try simp only [List.getElem_toArray, List.getElem_cons_succ, List.getElem_cons_zero, Act.put, List.setIfInBounds_toArray, List.set_cons_zero, List.set_cons_succ]
    change wpAnyH _ _ _ _ _ (8 + 1) _ _ _
    refine wpAnyH_take (i := 3) (by simp only [List.getElem?_toArray, List.getElem?_cons_succ, List.getElem?_cons_zero]; rfl) (by kernel_rfl) (by kernel_rfl) (by kernel_rfl) (fun _ _ _ h => by exact h) (.inl ⟨by rfl, fun u hu => by go_simp; try with_reducible rfl⟩) HS.out ?_
    try simp only [List.getElem_toArray, List.getElem_cons_succ, List.getElem_cons_zero, Act.put, List.setIfInBounds_toArray, List.set_cons_zero, List.set_cons_succ]
    change wpAnyH _ _ _ _ _ (7 + 1) _ _ _
    refine wpAnyH_take (i := 4) (by simp only [List.getElem?_toArray, List.getElem?_cons_succ, List.getElem?_cons_zero]; rfl) (by kernel_rfl) (by kernel_rfl) (by kernel_rfl) (fun _ _ _ h => by exact h) (.inl ⟨by rfl, fun u hu => by go_simp; try with_reducible rfl⟩) HS.out ?_
    try simp only [List.getElem_toArray, List.getElem_cons_succ, List.getElem_cons_zero, Act.put, List.setIfInBounds_toArray, List.set_cons_zero, List.set_cons_succ]
    change wpAnyH _ _ _ _ _ (6 + 1) _ _ _
    refine wpAnyH_take (i := 5) (by simp only [List.getElem?_toArray, List.getElem?_cons_succ, List.getElem?_cons_zero]; rfl) (by kernel_rfl) (by kernel_rfl) (by kernel_rfl) (fun _ _ _ h => by exact h) (.inl ⟨by rfl, fun u hu => by go_simp; try with_reducible rfl⟩) HS.out ?_
    try simp only [List.getElem_toArray, List.getElem_cons_succ, List.getElem_cons_zero, Act.put, List.setIfInBounds_toArray, List.set_cons_zero, List.set_cons_succ]
    change wpAnyH _ _ _ _ _ (5 + 1) _ _ _
    refine wpAnyH_take (i := 6) (by simp only [List.getElem?_toArray, List.getElem?_cons_succ, List.getElem?_cons_zero]; rfl) (by kernel_rfl) (by kernel_rfl) (by kernel_rfl) (fun _ _ _ h => by exact h) (.inl ⟨by rfl, fun u hu => by go_simp; try with_reducible rfl⟩) HS.out ?_
    try simp only [List.getElem_toArray, List.getElem_cons_succ, List.getElem_cons_zero, Act.put, List.setIfInBounds_toArray, List.set_cons_zero, List.set_cons_succ]
    change wpAnyH _ _ _ _ _ (4 + 1) _ _ _
    refine wpAnyH_take (i := 7) (by simp only [List.getElem?_toArray, List.getElem?_cons_succ, List.getElem?_cons_zero]; rfl) (by kernel_rfl) (by kernel_rfl) (by kernel_rfl) (fun _ _ _ h => by exact h) (.inl ⟨by rfl, fun u hu => by go_simp; try with_reducible rfl⟩) HS.out ?_
    try simp only [List.getElem_toArray, List.getElem_cons_succ, List.getElem_cons_zero, Act.put, List.setIfInBounds_toArray, List.set_cons_zero, List.set_cons_succ]
    change wpAnyH _ _ _ _ _ (3 + 1) _ _ _
    refine wpAnyH_take (i := 8) (by simp only [List.getElem?_toArray, List.getElem?_cons_succ, List.getElem?_cons_zero]; rfl) (by kernel_rfl) (by kernel_rfl) (by kernel_rfl) (fun _ _ _ h => by exact h) (.inl ⟨by rfl, fun u hu => by go_simp; try with_reducible rfl⟩) HS.out ?_
    try simp only [List.getElem_toArray, List.getElem_cons_succ, List.getElem_cons_zero, Act.put, List.setIfInBounds_toArray, List.set_cons_zero, List.set_cons_succ]
    change wpAnyH _ _ _ _ _ (2 + 1) _ _ _
    refine wpAnyH_take (i := 9) (by simp only [List.getElem?_toArray, List.getElem?_cons_succ, List.getElem?_cons_zero]; rfl) (by kernel_rfl) (by kernel_rfl) (by kernel_rfl) (fun _ _ _ h => by exact h) (.inl ⟨by rfl, fun u hu => by go_simp; try with_reducible rfl⟩) HS.out ?_
    try simp only [List.getElem_toArray, List.getElem_cons_succ, List.getElem_cons_zero, Act.put, List.setIfInBounds_toArray, List.set_cons_zero, List.set_cons_succ]
    change wpAnyH _ _ _ _ _ (1 + 1) _ _ _
    refine wpAnyH_take (i := 10) (by simp only [List.getElem?_toArray, List.getElem?_cons_succ, List.getElem?_cons_zero]; rfl) (by kernel_rfl) (by kernel_rfl) (by kernel_rfl) (fun _ _ _ h => by exact h) (.inl ⟨by rfl, fun u hu => by go_simp; try with_reducible rfl⟩) HS.out ?_
    try simp only [List.getElem_toArray, List.getElem_cons_succ, List.getElem_cons_zero, Act.put, List.setIfInBounds_toArray, List.set_cons_zero, List.set_cons_succ]
    change wpAnyH _ _ _ _ _ (0 + 1) _ _ _
    refine wpAnyH_take (i := 11) (by simp only [List.getElem?_toArray, List.getElem?_cons_succ, List.getElem?_cons_zero]; rfl) (by kernel_rfl) (by kernel_rfl) (by kernel_rfl) (fun _ _ _ h => by exact h) (.inl ⟨by rfl, fun u hu => by go_simp; try with_reducible rfl⟩) HS.out ?_
    try simp only [List.getElem_toArray, List.getElem_cons_succ, List.getElem_cons_zero, Act.put, List.setIfInBounds_toArray, List.set_cons_zero, List.set_cons_succ]
    refine wpAnyH_done (by kernel_rfl) ?_ _
    clear j0 j1 j2
    go_wp2_with ((first
      | ((refine Hold.build (t := 38) (parts := #[]) (cs := sayV zeroX) rfl rfl ?_ ?_); focus (exact built_none))
      | ((with_reducible refine Hold.store HM.out 0 (v' := sayV zeroX) rfl rfl rfl rfl rfl (say_fits zeroX zeroX) (say_laid zeroX zeroX) (say_one zeroX) (sayRow zeroX) ?_); clear HM; intro w HM; simp only [List.set_cons_zero, List.set_cons_succ] at HM; replace HM := Lib.hid HM)))
    refine bodyPost_ret (Hold.resultsCT HM.out 0 rfl _ rfl rfl rfl (sayRow zeroX)) rfl ?_
    exact ⟨rfl, HM.out.below⟩
  have d4 : decide ((cn : Int) < (N1 : Int)) = false := decide_eq_false (fun h => A4 (Int.ofNat_lt.1 h))
  have hmin : min (N1 : Int) (cn : Int) = (N1 : Int) := Int.min_eq_left (Int.ofNat_le.2 (Nat.le_of_not_lt A4))
  have hle : N1 ≤ cn := Nat.le_of_not_lt A4
  obtain ⟨TZ, hTZ⟩ : ∃ D, D = tx (((b.drop 3).take cn).drop N1) := ⟨_, rfl⟩
  have zTZ : TZ.size ≤ 16 := by rw [hTZ]; exact drop_size b cn N1 c2
  have m4 : ∀ u, (Instr.slice 9 (.string TX) (some (.int .i64 (N1 : Int))) none none).run Tryz.prog u = .ok (.string TZ) u := fun u => slice_l TX TZ N1 (by rw [zTX]; exact hle) (by rw [hTZ, hTX]) u
  obtain ⟨B1, hB1⟩ : ∃ B, B = Frm.noughts (((b.drop 3).take cn).drop N1) := ⟨_, rfl⟩
  have RN1 := Lib.hid (fun u => noughts_ref TZ B1 u (by rw [hB1, hTZ]) (Nat.le_trans zTZ (by decide)))
  by_cases A5 : B1 = true
  case neg =>
    obtain rfl : B1 = false := by simpa using A5
    clear A5
    have h1 : readE t.data.toList (cn : Int) (gn : Int) = 3 := by rw [HE1.out, if_pos (show badForm b (cn : Int) from Or.inr (Or.inr (Or.inl (by rw [← HN1.out, hct]; exact hB1.symm))))]
    obtain rfl : E = 3 := by rw [HE.out, h1]
    obtain rfl := hbad 3 h1 (by decide)
    try clear hle
    try clear hB1
    try clear hTZ
    clear hY HE hbad h1 HE1 HG hc hs hSD hRS hBD zSD zRS zBD hop hb hbl HN0 HN1 HN2 hTX hSG HTL hGp hts zTX HX0
    go_enter Tryz.func24, Tryz.ntmps24
    obtain ⟨i0, m0, m1, m2⟩ := FX.out
    go_upto_region 8 with ((first
      | ((with_reducible refine Hold.alloc HM.out rfl rfl zeroS zero_said ?_); clear HM; intro b6 w HM; simp only [List.nil_append, List.cons_append] at HM; replace HM := Lib.hid HM)
      | ((with_reducible refine (RL.out _).mono ?_); rintro e w ⟨rfl, hb⟩; replace HM := Lib.hid (HM.out.next hb); clear hb)
      | ((with_reducible refine (RM.out _).mono ?_); rintro e w ⟨rfl, hb⟩; replace HM := Lib.hid (HM.out.next hb); clear hb)))
    clear i0 m0 m1
    obtain ⟨j0, j1, j2⟩ := FJ.out
    obtain ⟨v0, v1, v2⟩ := FV.out
    have HS := Lib.hid (Hold.Hld.drew (show Hold.Hld _ [⟨b6, 38, zeroS⟩] w from HM.out))
    replace HM := Lib.hid HM.out.drew
    refine wp_region_held (S := fun u => Hold.Hld w0 [⟨b6, 38, zeroS⟩] u) (by kernel_rfl) ?_
    change wpAnyH _ _ _ _ _ _ _ _ w.drew
    generalize w.drew = wd at *
    change wpAnyH _ _ _ _ _ (11 + 1) _ _ _
    refine wpAnyH_take (i := 0) (by simp only [List.getElem?_toArray, List.getElem?_cons_succ, List.getElem?_cons_zero]; rfl) (by kernel_rfl) (by kernel_rfl) (by kernel_rfl) (fun _ _ _ h => by exact h) (.inl ⟨by rfl, fun u hu => by go_simp; try with_reducible rfl⟩) HS.out ?_
    try simp only [List.getElem_toArray, List.getElem_cons_succ, List.getElem_cons_zero, Act.put, List.setIfInBounds_toArray, List.set_cons_zero, List.set_cons_succ]
    change wpAnyH _ _ _ _ _ (10 + 1) _ _ _
    refine wpAnyH_take (i := 1) (by simp only [List.getElem?_toArray, List.getElem?_cons_succ, List.getElem?_cons_zero]; rfl) (by kernel_rfl) (by kernel_rfl) (by kernel_rfl) (fun _ _ _ h => by exact h) (.inl ⟨by rfl, fun u hu => by go_simp; try with_reducible rfl⟩) HS.out ?_
    try simp only [List.getElem_toArray, List.getElem_cons_succ, List.getElem_cons_zero, Act.put, List.setIfInBounds_toArray, List.set_cons_zero, List.set_cons_succ]
    change wpAnyH _ _ _ _ _ (9 + 1) _ _ _
    refine wpAnyH_take (i := 2) (by simp only [List.getElem?_toArray, List.getElem?_cons_succ, List.getElem?_cons_zero]; rfl) (by kernel_rfl) (by kernel_rfl) (by kernel_rfl) (fun _ _ _ h => by exact h) (.inl ⟨by rfl, fun u hu => by go_simp; try with_reducible rfl⟩) HS.out ?_
    try simp only [List.getElem_toArray, List.getElem_cons_succ, List.getElem_cons_zero, Act.put, List.setIfInBounds_toArray, List.set_cons_zero, List.set_cons_succ]
    change wpAnyH _ _ _ _ _ (8 + 1) _ _ _
    refine wpAnyH_take (i := 3) (by simp only [List.getElem?_toArray, List.getElem?_cons_succ, List.getElem?_cons_zero]; rfl) (by kernel_rfl) (by kernel_rfl) (by kernel_rfl) (fun _ _ _ h => by exact h) (.inl ⟨by rfl, fun u hu => by go_simp; try with_reducible rfl⟩) HS.out ?_
    try simp only [List.getElem_toArray, List.getElem_cons_succ, List.getElem_cons_zero, Act.put, List.setIfInBounds_toArray, List.set_cons_zero, List.set_cons_succ]
    change wpAnyH _ _ _ _ _ (7 + 1) _ _ _
    refine wpAnyH_take (i := 4) (by simp only [List.getElem?_toArray, List.getElem?_cons_succ, List.getElem?_cons_zero]; rfl) (by kernel_rfl) (by kernel_rfl) (by kernel_rfl) (fun _ _ _ h => by exact h) (.inl ⟨by rfl, fun u hu => by go_simp; try with_reducible rfl⟩) HS.out ?_
    try simp only [List.getElem_toArray, List.getElem_cons_succ, List.getElem_cons_zero, Act.put, List.setIfInBounds_toArray, List.set_cons_zero, List.set_cons_succ]
    change wpAnyH _ _ _ _ _ (6 + 1) _ _ _
    refine wpAnyH_take (i := 5) (by simp only [List.getElem?_toArray, List.getElem?_cons_succ, List.getElem?_cons_zero]; rfl) (by kernel_rfl) (by kernel_rfl) (by kernel_rfl) (fun _ _ _ h => by exact h) (.inl ⟨by rfl, fun u hu => by go_simp; try with_reducible rfl⟩) HS.out ?_
    try simp only [List.getElem_toArray, List.getElem_cons_succ, List.getElem_cons_zero, Act.put, List.setIfInBounds_toArray, List.set_cons_zero, List.set_cons_succ]
    change wpAnyH _ _ _ _ _ (5 + 1) _ _ _
    refine wpAnyH_take (i := 6) (by simp only [List.getElem?_toArray, List.getElem?_cons_succ, List.getElem?_cons_zero]; rfl) (by kernel_rfl) (by kernel_rfl) (by kernel_rfl) (fun _ _ _ h => by exact h) (.inl ⟨by rfl, fun u hu => by go_simp; try with_reducible rfl⟩) HS.out ?_
    try simp only [List.getElem_toArray, List.getElem_cons_succ, List.getElem_cons_zero, Act.put, List.setIfInBounds_toArray, List.set_cons_zero, List.set_cons_succ]
    change wpAnyH _ _ _ _ _ (4 + 1) _ _ _
    refine wpAnyH_take (i := 7) (by simp only [List.getElem?_toArray, List.getElem?_cons_succ, List.getElem?_cons_zero]; rfl) (by kernel_rfl) (by kernel_rfl) (by kernel_rfl) (fun _ _ _ h => by exact h) (.inl ⟨by rfl, fun u hu => by go_simp; try with_reducible rfl⟩) HS.out ?_
    try simp only [List.getElem_toArray, List.getElem_cons_succ, List.getElem_cons_zero, Act.put, List.setIfInBounds_toArray, List.set_cons_zero, List.set_cons_succ]
    change wpAnyH _ _ _ _ _ (3 + 1) _ _ _
    refine wpAnyH_take (i := 8) (by simp only [List.getElem?_toArray, List.getElem?_cons_succ, List.getElem?_cons_zero]; rfl) (by kernel_rfl) (by kernel_rfl) (by kernel_rfl) (fun _ _ _ h => by exact h) (.inl ⟨by rfl, fun u hu => by go_simp; try with_reducible rfl⟩) HS.out ?_
    try simp only [List.getElem_toArray, List.getElem_cons_succ, List.getElem_cons_zero, Act.put, List.setIfInBounds_toArray, List.set_cons_zero, List.set_cons_succ]
    change wpAnyH _ _ _ _ _ (2 + 1) _ _ _
    refine wpAnyH_take (i := 9) (by simp only [List.getElem?_toArray, List.getElem?_cons_succ, List.getElem?_cons_zero]; rfl) (by kernel_rfl) (by kernel_rfl) (by kernel_rfl) (fun _ _ _ h => by exact h) (.inl ⟨by rfl, fun u hu => by go_simp; try with_reducible rfl⟩) HS.out ?_
    try simp only [List.getElem_toArray, List.getElem_cons_succ, List.getElem_cons_zero, Act.put, List.setIfInBounds_toArray, List.set_cons_zero, List.set_cons_succ]
    change wpAnyH _ _ _ _ _ (1 + 1) _ _ _
    refine wpAnyH_take (i := 10) (by simp only [List.getElem?_toArray, List.getElem?_cons_succ, List.getElem?_cons_zero]; rfl) (by kernel_rfl) (by kernel_rfl) (by kernel_rfl) (fun _ _ _ h => by exact h) (.inl ⟨by rfl, fun u hu => by go_simp; try with_reducible rfl⟩) HS.out ?_
    try simp only [List.getElem_toArray, List.getElem_cons_succ, List.getElem_cons_zero, Act.put, List.setIfInBounds_toArray, List.set_cons_zero, List.set_cons_succ]
    change wpAnyH _ _ _ _ _ (0 + 1) _ _ _
    refine wpAnyH_take (i := 11) (by simp only [List.getElem?_toArray, List.getElem?_cons_succ, List.getElem?_cons_zero]; rfl) (by kernel_rfl) (by kernel_rfl) (by kernel_rfl) (fun _ _ _ h => by exact h) (.inl ⟨by rfl, fun u hu => by go_simp; try with_reducible rfl⟩) HS.out ?_
    try simp only [List.getElem_toArray, List.getElem_cons_succ, List.getElem_cons_zero, Act.put, List.setIfInBounds_toArray, List.set_cons_zero, List.set_cons_succ]
    refine wpAnyH_done (by kernel_rfl) ?_ _
    clear j0 j1 j2
    go_wp2_with ((first
      | ((with_reducible refine (RN1.out _).mono ?_); rintro e w ⟨rfl, hb⟩; replace HM := Lib.hid (HM.out.next hb); clear hb)
      | ((refine Hold.build (t := 38) (parts := #[]) (cs := sayV zeroX) rfl rfl ?_ ?_); focus (exact built_none))
      | ((with_reducible refine Hold.store HM.out 0 (v' := sayV zeroX) rfl rfl rfl rfl rfl (say_fits zeroX zeroX) (say_laid zeroX zeroX) (say_one zeroX) (sayRow zeroX) ?_); clear HM; intro w HM; simp only [List.set_cons_zero, List.set_cons_succ] at HM; replace HM := Lib.hid HM)))
    refine bodyPost_ret (Hold.resultsCT HM.out 0 rfl _ rfl rfl rfl (sayRow zeroX)) rfl ?_
    exact ⟨rfl, HM.out.below⟩
  subst A5
  obtain ⟨TT, hTT⟩ : ∃ D, D = tx ((b.drop 3).take N1) := ⟨_, rfl⟩
  have m5 : ∀ u, (Instr.slice 9 (.string TX) none (some (.int .i64 (N1 : Int))) none).run Tryz.prog u = .ok (.string TT) u := fun u => slice_h TX TT N1 (by rw [zTX]; exact hle) (by rw [hTT, hTX, tx_back, List.take_take, Nat.min_eq_left hle]) u
  obtain ⟨y, hy⟩ : ∃ y : SayB, y = ⟨(N0 : Int), (N2 : Int), TT, SG⟩ := ⟨_, rfl⟩
  have hbt : Tryz.prog.built 38 [(0, .int .i64 (N0 : Int)), (1, .int .i64 (N2 : Int)), (2, .string TT), (3, .string SG)] = some (sayV y).toArray := by rw [hy]; exact built_said ⟨(N0 : Int), (N2 : Int), TT, SG⟩
  have hy3 : (sayV y)[3]? = some (.string SG) := by rw [hy]; rfl
  have FM := Lib.hid (And.intro m4 (And.intro m5 m3))
  clear m4 m5 m3
  by_cases A6 : N1 = 0
  case neg =>
    have d6 : ((N1 : Int) == 0) = false := by simpa using A6
    have h1 : readE t.data.toList (cn : Int) (gn : Int) = 0 := by
      rw [HE1.out, if_neg]
      unfold badForm
      rw [← HN0.out, ← HN1.out, hct, ← hB1]
      rintro (h | h | h | ⟨h, -⟩)
      · exact A3 h
      · exact A4 (Int.ofNat_lt.1 h)
      · cases h
      · exact A6 h
    obtain rfl : E = 0 := by rw [HE.out, h1]
    have hYy : Y = y := by
      rw [hY, hy]
      unfold readX sayOf
      rw [if_pos h1, hop, ← hb, ← HN0.out, ← HN1.out, ← HN2.out, if_neg A6, hct, hTT, hSG]
      rfl
    obtain rfl := hYy.symm
    try clear hle
    try clear hB2
    try clear A6
    try clear A7
    clear hY HE hbad h1 HE1 HG hc hs hSD hRS hBD zSD zRS zBD hop hb hbl HN0 HN1 HN2 hTX hSG HTL hGp hts HX0 hTZ hTT hB1
    go_enter Tryz.func24, Tryz.ntmps24
    obtain ⟨i0, m0, m1, m2⟩ := FX.out
    go_upto_region 8 with ((first
      | ((with_reducible refine Hold.alloc HM.out rfl rfl zeroS zero_said ?_); clear HM; intro b6 w HM; simp only [List.nil_append, List.cons_append] at HM; replace HM := Lib.hid HM)
      | ((with_reducible refine (RL.out _).mono ?_); rintro e w ⟨rfl, hb⟩; replace HM := Lib.hid (HM.out.next hb); clear hb)
      | ((with_reducible refine (RM.out _).mono ?_); rintro e w ⟨rfl, hb⟩; replace HM := Lib.hid (HM.out.next hb); clear hb)))
    clear i0 m0 m1
    obtain ⟨j0, j1, j2⟩ := FJ.out
    obtain ⟨v0, v1, v2⟩ := FV.out
    have HS := Lib.hid (Hold.Hld.drew (show Hold.Hld _ [⟨b6, 38, zeroS⟩] w from HM.out))
    replace HM := Lib.hid HM.out.drew
    refine wp_region_held (S := fun u => Hold.Hld w0 [⟨b6, 38, zeroS⟩] u) (by kernel_rfl) ?_
    change wpAnyH _ _ _ _ _ _ _ _ w.drew
    generalize w.drew = wd at *
    change wpAnyH _ _ _ _ _ (11 + 1) _ _ _
    refine wpAnyH_take (i := 0) (by simp only [List.getElem?_toArray, List.getElem?_cons_succ, List.getElem?_cons_zero]; rfl) (by kernel_rfl) (by kernel_rfl) (by kernel_rfl) (fun _ _ _ h => by exact h) (.inl ⟨by rfl, fun u hu => by go_simp; try with_reducible rfl⟩) HS.out ?_
    try simp only [List.getElem_toArray, List.getElem_cons_succ, List.getElem_cons_zero, Act.put, List.setIfInBounds_toArray, List.set_cons_zero, List.set_cons_succ]
    change wpAnyH _ _ _ _ _ (10 + 1) _ _ _
    refine wpAnyH_take (i := 1) (by simp only [List.getElem?_toArray, List.getElem?_cons_succ, List.getElem?_cons_zero]; rfl) (by kernel_rfl) (by kernel_rfl) (by kernel_rfl) (fun _ _ _ h => by exact h) (.inl ⟨by rfl, fun u hu => by go_simp; try with_reducible rfl⟩) HS.out ?_
    try simp only [List.getElem_toArray, List.getElem_cons_succ, List.getElem_cons_zero, Act.put, List.setIfInBounds_toArray, List.set_cons_zero, List.set_cons_succ]
    change wpAnyH _ _ _ _ _ (9 + 1) _ _ _
    refine wpAnyH_take (i := 2) (by simp only [List.getElem?_toArray, List.getElem?_cons_succ, List.getElem?_cons_zero]; rfl) (by kernel_rfl) (by kernel_rfl) (by kernel_rfl) (fun _ _ _ h => by exact h) (.inl ⟨by rfl, fun u hu => by go_simp; try with_reducible rfl⟩) HS.out ?_
    try simp only [List.getElem_toArray, List.getElem_cons_succ, List.getElem_cons_zero, Act.put, List.setIfInBounds_toArray, List.set_cons_zero, List.set_cons_succ]
    change wpAnyH _ _ _ _ _ (8 + 1) _ _ _
    refine wpAnyH_take (i := 3) (by simp only [List.getElem?_toArray, List.getElem?_cons_succ, List.getElem?_cons_zero]; rfl) (by kernel_rfl) (by kernel_rfl) (by kernel_rfl) (fun _ _ _ h => by exact h) (.inl ⟨by rfl, fun u hu => by go_simp; try with_reducible rfl⟩) HS.out ?_
    try simp only [List.getElem_toArray, List.getElem_cons_succ, List.getElem_cons_zero, Act.put, List.setIfInBounds_toArray, List.set_cons_zero, List.set_cons_succ]
    change wpAnyH _ _ _ _ _ (7 + 1) _ _ _
    refine wpAnyH_take (i := 4) (by simp only [List.getElem?_toArray, List.getElem?_cons_succ, List.getElem?_cons_zero]; rfl) (by kernel_rfl) (by kernel_rfl) (by kernel_rfl) (fun _ _ _ h => by exact h) (.inl ⟨by rfl, fun u hu => by go_simp; try with_reducible rfl⟩) HS.out ?_
    try simp only [List.getElem_toArray, List.getElem_cons_succ, List.getElem_cons_zero, Act.put, List.setIfInBounds_toArray, List.set_cons_zero, List.set_cons_succ]
    change wpAnyH _ _ _ _ _ (6 + 1) _ _ _
    refine wpAnyH_take (i := 5) (by simp only [List.getElem?_toArray, List.getElem?_cons_succ, List.getElem?_cons_zero]; rfl) (by kernel_rfl) (by kernel_rfl) (by kernel_rfl) (fun _ _ _ h => by exact h) (.inl ⟨by rfl, fun u hu => by go_simp; try with_reducible rfl⟩) HS.out ?_
    try simp only [List.getElem_toArray, List.getElem_cons_succ, List.getElem_cons_zero, Act.put, List.setIfInBounds_toArray, List.set_cons_zero, List.set_cons_succ]
    change wpAnyH _ _ _ _ _ (5 + 1) _ _ _
    refine wpAnyH_take (i := 6) (by simp only [List.getElem?_toArray, List.getElem?_cons_succ, List.getElem?_cons_zero]; rfl) (by kernel_rfl) (by kernel_rfl) (by kernel_rfl) (fun _ _ _ h => by exact h) (.inl ⟨by rfl, fun u hu => by go_simp; try with_reducible rfl⟩) HS.out ?_
    try simp only [List.getElem_toArray, List.getElem_cons_succ, List.getElem_cons_zero, Act.put, List.setIfInBounds_toArray, List.set_cons_zero, List.set_cons_succ]
    change wpAnyH _ _ _ _ _ (4 + 1) _ _ _
    refine wpAnyH_take (i := 7) (by simp only [List.getElem?_toArray, List.getElem?_cons_succ, List.getElem?_cons_zero]; rfl) (by kernel_rfl) (by kernel_rfl) (by kernel_rfl) (fun _ _ _ h => by exact h) (.inl ⟨by rfl, fun u hu => by go_simp; try with_reducible rfl⟩) HS.out ?_
    try simp only [List.getElem_toArray, List.getElem_cons_succ, List.getElem_cons_zero, Act.put, List.setIfInBounds_toArray, List.set_cons_zero, List.set_cons_succ]
    change wpAnyH _ _ _ _ _ (3 + 1) _ _ _
    refine wpAnyH_take (i := 8) (by simp only [List.getElem?_toArray, List.getElem?_cons_succ, List.getElem?_cons_zero]; rfl) (by kernel_rfl) (by kernel_rfl) (by kernel_rfl) (fun _ _ _ h => by exact h) (.inl ⟨by rfl, fun u hu => by go_simp; try with_reducible rfl⟩) HS.out ?_
    try simp only [List.getElem_toArray, List.getElem_cons_succ, List.getElem_cons_zero, Act.put, List.setIfInBounds_toArray, List.set_cons_zero, List.set_cons_succ]
    change wpAnyH _ _ _ _ _ (2 + 1) _ _ _
    refine wpAnyH_take (i := 9) (by simp only [List.getElem?_toArray, List.getElem?_cons_succ, List.getElem?_cons_zero]; rfl) (by kernel_rfl) (by kernel_rfl) (by kernel_rfl) (fun _ _ _ h => by exact h) (.inl ⟨by rfl, fun u hu => by go_simp; try with_reducible rfl⟩) HS.out ?_
    try simp only [List.getElem_toArray, List.getElem_cons_succ, List.getElem_cons_zero, Act.put, List.setIfInBounds_toArray, List.set_cons_zero, List.set_cons_succ]
    change wpAnyH _ _ _ _ _ (1 + 1) _ _ _
    refine wpAnyH_take (i := 10) (by simp only [List.getElem?_toArray, List.getElem?_cons_succ, List.getElem?_cons_zero]; rfl) (by kernel_rfl) (by kernel_rfl) (by kernel_rfl) (fun _ _ _ h => by exact h) (.inl ⟨by rfl, fun u hu => by go_simp; try with_reducible rfl⟩) HS.out ?_
    try simp only [List.getElem_toArray, List.getElem_cons_succ, List.getElem_cons_zero, Act.put, List.setIfInBounds_toArray, List.set_cons_zero, List.set_cons_succ]
    change wpAnyH _ _ _ _ _ (0 + 1) _ _ _
    refine wpAnyH_take (i := 11) (by simp only [List.getElem?_toArray, List.getElem?_cons_succ, List.getElem?_cons_zero]; rfl) (by kernel_rfl) (by kernel_rfl) (by kernel_rfl) (fun _ _ _ h => by exact h) (.inl ⟨by rfl, fun u hu => by go_simp; try with_reducible rfl⟩) HS.out ?_
    try simp only [List.getElem_toArray, List.getElem_cons_succ, List.getElem_cons_zero, Act.put, List.setIfInBounds_toArray, List.set_cons_zero, List.set_cons_succ]
    refine wpAnyH_done (by kernel_rfl) ?_ _
    clear j0 j1 j2
    obtain ⟨m4, m5, m3⟩ := FM.out
    go_upto_region 12 with ((first
      | ((with_reducible refine (RN1.out _).mono ?_); rintro e w ⟨rfl, hb⟩; replace HM := Lib.hid (HM.out.next hb); clear hb)))
    have HS := Lib.hid (Hold.Hld.drew (show Hold.Hld _ [⟨b6, 38, zeroS⟩] w from HM.out))
    replace HM := Lib.hid HM.out.drew
    refine wp_region_held (S := fun u => Hold.Hld w0 [⟨b6, 38, zeroS⟩] u) (by kernel_rfl) ?_
    change wpAnyH _ _ _ _ _ _ _ _ w.drew
    generalize w.drew = wd at *
    change wpAnyH _ _ _ _ _ (11 + 1) _ _ _
    refine wpAnyH_take (i := 0) (by simp only [List.getElem?_toArray, List.getElem?_cons_succ, List.getElem?_cons_zero]; rfl) (by kernel_rfl) (by kernel_rfl) (by kernel_rfl) (fun _ _ _ h => by exact h) (.inl ⟨by rfl, fun u hu => by go_simp; try with_reducible rfl⟩) HS.out ?_
    try simp only [List.getElem_toArray, List.getElem_cons_succ, List.getElem_cons_zero, Act.put, List.setIfInBounds_toArray, List.set_cons_zero, List.set_cons_succ]
    change wpAnyH _ _ _ _ _ (10 + 1) _ _ _
    refine wpAnyH_take (i := 1) (by simp only [List.getElem?_toArray, List.getElem?_cons_succ, List.getElem?_cons_zero]; rfl) (by kernel_rfl) (by kernel_rfl) (by kernel_rfl) (fun _ _ _ h => by exact h) (.inl ⟨by rfl, fun u hu => by go_simp; try with_reducible rfl⟩) HS.out ?_
    try simp only [List.getElem_toArray, List.getElem_cons_succ, List.getElem_cons_zero, Act.put, List.setIfInBounds_toArray, List.set_cons_zero, List.set_cons_succ]
    change wpAnyH _ _ _ _ _ (9 + 1) _ _ _
    refine wpAnyH_take (i := 2) (by simp only [List.getElem?_toArray, List.getElem?_cons_succ, List.getElem?_cons_zero]; rfl) (by kernel_rfl) (by kernel_rfl) (by kernel_rfl) (fun _ _ _ h => by exact h) (.inl ⟨by rfl, fun u hu => by go_simp; try with_reducible rfl⟩) HS.out ?_
    try simp only [List.getElem_toArray, List.getElem_cons_succ, List.getElem_cons_zero, Act.put, List.setIfInBounds_toArray, List.set_cons_zero, List.set_cons_succ]
    change wpAnyH _ _ _ _ _ (8 + 1) _ _ _
    refine wpAnyH_take (i := 3) (by simp only [List.getElem?_toArray, List.getElem?_cons_succ, List.getElem?_cons_zero]; rfl) (by kernel_rfl) (by kernel_rfl) (by kernel_rfl) (fun _ _ _ h => by exact h) (.inl ⟨by rfl, fun u hu => by go_simp; try with_reducible rfl⟩) HS.out ?_
    try simp only [List.getElem_toArray, List.getElem_cons_succ, List.getElem_cons_zero, Act.put, List.setIfInBounds_toArray, List.set_cons_zero, List.set_cons_succ]
    change wpAnyH _ _ _ _ _ (7 + 1) _ _ _
    refine wpAnyH_take (i := 4) (by simp only [List.getElem?_toArray, List.getElem?_cons_succ, List.getElem?_cons_zero]; rfl) (by kernel_rfl) (by kernel_rfl) (by kernel_rfl) (fun _ _ _ h => by exact h) (.inl ⟨by rfl, fun u hu => by go_simp; try with_reducible rfl⟩) HS.out ?_
    try simp only [List.getElem_toArray, List.getElem_cons_succ, List.getElem_cons_zero, Act.put, List.setIfInBounds_toArray, List.set_cons_zero, List.set_cons_succ]
    change wpAnyH _ _ _ _ _ (6 + 1) _ _ _
    refine wpAnyH_take (i := 5) (by simp only [List.getElem?_toArray, List.getElem?_cons_succ, List.getElem?_cons_zero]; rfl) (by kernel_rfl) (by kernel_rfl) (by kernel_rfl) (fun _ _ _ h => by exact h) (.inl ⟨by rfl, fun u hu => by go_simp; try with_reducible rfl⟩) HS.out ?_
    try simp only [List.getElem_toArray, List.getElem_cons_succ, List.getElem_cons_zero, Act.put, List.setIfInBounds_toArray, List.set_cons_zero, List.set_cons_succ]
    change wpAnyH _ _ _ _ _ (5 + 1) _ _ _
    refine wpAnyH_take (i := 6) (by simp only [List.getElem?_toArray, List.getElem?_cons_succ, List.getElem?_cons_zero]; rfl) (by kernel_rfl) (by kernel_rfl) (by kernel_rfl) (fun _ _ _ h => by exact h) (.inl ⟨by rfl, fun u hu => by go_simp; try with_reducible rfl⟩) HS.out ?_
    try simp only [List.getElem_toArray, List.getElem_cons_succ, List.getElem_cons_zero, Act.put, List.setIfInBounds_toArray, List.set_cons_zero, List.set_cons_succ]
    change wpAnyH _ _ _ _ _ (4 + 1) _ _ _
    refine wpAnyH_take (i := 7) (by simp only [List.getElem?_toArray, List.getElem?_cons_succ, List.getElem?_cons_zero]; rfl) (by kernel_rfl) (by kernel_rfl) (by kernel_rfl) (fun _ _ _ h => by exact h) (.inl ⟨by rfl, fun u hu => by go_simp; try with_reducible rfl⟩) HS.out ?_
    try simp only [List.getElem_toArray, List.getElem_cons_succ, List.getElem_cons_zero, Act.put, List.setIfInBounds_toArray, List.set_cons_zero, List.set_cons_succ]
    change wpAnyH _ _ _ _ _ (3 + 1) _ _ _
    refine wpAnyH_take (i := 8) (by simp only [List.getElem?_toArray, List.getElem?_cons_succ, List.getElem?_cons_zero]; rfl) (by kernel_rfl) (by kernel_rfl) (by kernel_rfl) (fun _ _ _ h => by exact h) (.inl ⟨by rfl, fun u hu => by go_simp; try with_reducible rfl⟩) HS.out ?_
    try simp only [List.getElem_toArray, List.getElem_cons_succ, List.getElem_cons_zero, Act.put, List.setIfInBounds_toArray, List.set_cons_zero, List.set_cons_succ]
    change wpAnyH _ _ _ _ _ (2 + 1) _ _ _
    refine wpAnyH_take (i := 9) (v := .agg (sayV y).toArray) (by simp only [List.getElem?_toArray, List.getElem?_cons_succ, List.getElem?_cons_zero]; rfl) (by kernel_rfl) (by kernel_rfl) (by kernel_rfl) (fun _ _ _ h => by exact h) (.inl ⟨by rfl, fun u hu => Hold.build_run (t := 38) (parts := #[(0, .tmp 68), (1, .tmp 69), (2, .tmp 72), (3, .tmp 76)]) rfl (by first | exact hbt | (simp [Act.eval, Act.put]; exact hbt))⟩) HS.out ?_
    try simp only [List.getElem_toArray, List.getElem_cons_succ, List.getElem_cons_zero, Act.put, List.setIfInBounds_toArray, List.set_cons_zero, List.set_cons_succ]
    change wpAnyH _ _ _ _ _ (1 + 1) _ _ _
    refine wpAnyH_all (rs := [10]) (by kernel_rfl) (by simp) (fun j hj => ?_)
    obtain rfl : j = 10 := by simpa using hj
    refine Hold.op_alloc HM.out (by simp only [List.getElem?_toArray, List.getElem?_cons_succ, List.getElem?_cons_zero]; rfl) rfl rfl zeroS zero_said ?_
    clear HM
    intro ba_1 wa_1 HM
    simp only [List.cons_append, List.nil_append] at HM
    replace HM := Lib.hid HM
    replace HS := Lib.hid (show Hold.Hld _ [⟨b6, 38, zeroS⟩] _ from Hold.Hld.front (m' := [_]) HM.out)
    refine ⟨HS.out, ?_⟩
    try simp only [List.getElem_toArray, List.getElem_cons_succ, List.getElem_cons_zero, Act.put, List.setIfInBounds_toArray, List.set_cons_zero, List.set_cons_succ]
    change wpAnyH _ _ _ _ _ (0 + 1) _ _ _
    refine wpAnyH_all (rs := [11]) (by kernel_rfl) (by simp) (fun j hj => ?_)
    obtain rfl : j = 11 := by simpa using hj
    refine op_store_any HM.out 1 (i := 11) (v' := sayV y) (by simp only [List.getElem?_toArray, List.getElem?_cons_succ, List.getElem?_cons_zero]; rfl) rfl rfl rfl rfl rfl (say_fits _ _) (say_laid _ _) (say_one _) (sayRow _) ?_
    clear HM
    intro ws_2 HM
    simp only [List.set_cons_zero, List.set_cons_succ] at HM
    replace HM := Lib.hid HM
    replace HS := Lib.hid (show Hold.Hld _ [⟨b6, 38, zeroS⟩] _ from Hold.Hld.front (m' := [_]) HM.out)
    refine ⟨HS.out, ?_⟩
    try simp only [List.getElem_toArray, List.getElem_cons_succ, List.getElem_cons_zero, Act.put, List.setIfInBounds_toArray, List.set_cons_zero, List.set_cons_succ]
    refine wpAnyH_done (by kernel_rfl) ?_ _
    go_wp2_with ((first
      | (with_reducible refine Hold.load HM.out 1 (cs := sayV y) rfl rfl rfl rfl (Hold.Part.all _) (sayRow _) ?_)
      | ((with_reducible refine Hold.store HM.out 0 (v' := sayV y) rfl rfl rfl rfl rfl (say_fits y zeroX) (say_laid y zeroX) (say_one y) (sayRow y) ?_); clear HM; intro w HM; simp only [List.set_cons_zero, List.set_cons_succ] at HM; replace HM := Lib.hid HM)))
    refine bodyPost_ret (Hold.resultsCT HM.out 0 rfl _ rfl rfl rfl (sayRow y)) rfl ?_
    exact ⟨rfl, HM.out.below⟩
  have d6 : ((N1 : Int) == 0) = true := by rw [A6]; rfl
  obtain ⟨B2, hB2⟩ : ∃ B, B = Frm.noughts (b.drop (3 + cn)) := ⟨_, rfl⟩
  have RN2 := Lib.hid (fun u => noughts_ref SG B2 u (by rw [hB2, hSG]) (by rw [hSG]; exact rest_size b cn gn hbl s2))
  by_cases A7 : N2 = 0
  case neg =>
    have d7 : ((N2 : Int) != 0) = true := by simpa using A7
    have h1 : readE t.data.toList (cn : Int) (gn : Int) = 3 := by rw [HE1.out, if_pos (show badForm b (cn : Int) from Or.inr (Or.inr (Or.inr ⟨by rw [← HN1.out]; exact A6, Or.inl (by rw [← HN2.out]; exact A7)⟩)))]
    obtain rfl : E = 3 := by rw [HE.out, h1]
    obtain rfl := hbad 3 h1 (by decide)
    try clear hle
    try clear hB2
    try clear A6
    try clear A7
    clear hY HE hbad h1 HE1 HG hc hs hSD hRS hBD zSD zRS zBD hop hb hbl HN0 HN1 HN2 hTX hSG HTL hGp hts HX0 hTZ hTT hB1
    go_enter Tryz.func24, Tryz.ntmps24
    obtain ⟨i0, m0, m1, m2⟩ := FX.out
    go_upto_region 8 with ((first
      | ((with_reducible refine Hold.alloc HM.out rfl rfl zeroS zero_said ?_); clear HM; intro b6 w HM; simp only [List.nil_append, List.cons_append] at HM; replace HM := Lib.hid HM)
      | ((with_reducible refine (RL.out _).mono ?_); rintro e w ⟨rfl, hb⟩; replace HM := Lib.hid (HM.out.next hb); clear hb)
      | ((with_reducible refine (RM.out _).mono ?_); rintro e w ⟨rfl, hb⟩; replace HM := Lib.hid (HM.out.next hb); clear hb)))
    clear i0 m0 m1
    obtain ⟨j0, j1, j2⟩ := FJ.out
    obtain ⟨v0, v1, v2⟩ := FV.out
    have HS := Lib.hid (Hold.Hld.drew (show Hold.Hld _ [⟨b6, 38, zeroS⟩] w from HM.out))
    replace HM := Lib.hid HM.out.drew
    refine wp_region_held (S := fun u => Hold.Hld w0 [⟨b6, 38, zeroS⟩] u) (by kernel_rfl) ?_
    change wpAnyH _ _ _ _ _ _ _ _ w.drew
    generalize w.drew = wd at *
    change wpAnyH _ _ _ _ _ (11 + 1) _ _ _
    refine wpAnyH_take (i := 0) (by simp only [List.getElem?_toArray, List.getElem?_cons_succ, List.getElem?_cons_zero]; rfl) (by kernel_rfl) (by kernel_rfl) (by kernel_rfl) (fun _ _ _ h => by exact h) (.inl ⟨by rfl, fun u hu => by go_simp; try with_reducible rfl⟩) HS.out ?_
    try simp only [List.getElem_toArray, List.getElem_cons_succ, List.getElem_cons_zero, Act.put, List.setIfInBounds_toArray, List.set_cons_zero, List.set_cons_succ]
    change wpAnyH _ _ _ _ _ (10 + 1) _ _ _
    refine wpAnyH_take (i := 1) (by simp only [List.getElem?_toArray, List.getElem?_cons_succ, List.getElem?_cons_zero]; rfl) (by kernel_rfl) (by kernel_rfl) (by kernel_rfl) (fun _ _ _ h => by exact h) (.inl ⟨by rfl, fun u hu => by go_simp; try with_reducible rfl⟩) HS.out ?_
    try simp only [List.getElem_toArray, List.getElem_cons_succ, List.getElem_cons_zero, Act.put, List.setIfInBounds_toArray, List.set_cons_zero, List.set_cons_succ]
    change wpAnyH _ _ _ _ _ (9 + 1) _ _ _
    refine wpAnyH_take (i := 2) (by simp only [List.getElem?_toArray, List.getElem?_cons_succ, List.getElem?_cons_zero]; rfl) (by kernel_rfl) (by kernel_rfl) (by kernel_rfl) (fun _ _ _ h => by exact h) (.inl ⟨by rfl, fun u hu => by go_simp; try with_reducible rfl⟩) HS.out ?_
    try simp only [List.getElem_toArray, List.getElem_cons_succ, List.getElem_cons_zero, Act.put, List.setIfInBounds_toArray, List.set_cons_zero, List.set_cons_succ]
    change wpAnyH _ _ _ _ _ (8 + 1) _ _ _
    refine wpAnyH_take (i := 3) (by simp only [List.getElem?_toArray, List.getElem?_cons_succ, List.getElem?_cons_zero]; rfl) (by kernel_rfl) (by kernel_rfl) (by kernel_rfl) (fun _ _ _ h => by exact h) (.inl ⟨by rfl, fun u hu => by go_simp; try with_reducible rfl⟩) HS.out ?_
    try simp only [List.getElem_toArray, List.getElem_cons_succ, List.getElem_cons_zero, Act.put, List.setIfInBounds_toArray, List.set_cons_zero, List.set_cons_succ]
    change wpAnyH _ _ _ _ _ (7 + 1) _ _ _
    refine wpAnyH_take (i := 4) (by simp only [List.getElem?_toArray, List.getElem?_cons_succ, List.getElem?_cons_zero]; rfl) (by kernel_rfl) (by kernel_rfl) (by kernel_rfl) (fun _ _ _ h => by exact h) (.inl ⟨by rfl, fun u hu => by go_simp; try with_reducible rfl⟩) HS.out ?_
    try simp only [List.getElem_toArray, List.getElem_cons_succ, List.getElem_cons_zero, Act.put, List.setIfInBounds_toArray, List.set_cons_zero, List.set_cons_succ]
    change wpAnyH _ _ _ _ _ (6 + 1) _ _ _
    refine wpAnyH_take (i := 5) (by simp only [List.getElem?_toArray, List.getElem?_cons_succ, List.getElem?_cons_zero]; rfl) (by kernel_rfl) (by kernel_rfl) (by kernel_rfl) (fun _ _ _ h => by exact h) (.inl ⟨by rfl, fun u hu => by go_simp; try with_reducible rfl⟩) HS.out ?_
    try simp only [List.getElem_toArray, List.getElem_cons_succ, List.getElem_cons_zero, Act.put, List.setIfInBounds_toArray, List.set_cons_zero, List.set_cons_succ]
    change wpAnyH _ _ _ _ _ (5 + 1) _ _ _
    refine wpAnyH_take (i := 6) (by simp only [List.getElem?_toArray, List.getElem?_cons_succ, List.getElem?_cons_zero]; rfl) (by kernel_rfl) (by kernel_rfl) (by kernel_rfl) (fun _ _ _ h => by exact h) (.inl ⟨by rfl, fun u hu => by go_simp; try with_reducible rfl⟩) HS.out ?_
    try simp only [List.getElem_toArray, List.getElem_cons_succ, List.getElem_cons_zero, Act.put, List.setIfInBounds_toArray, List.set_cons_zero, List.set_cons_succ]
    change wpAnyH _ _ _ _ _ (4 + 1) _ _ _
    refine wpAnyH_take (i := 7) (by simp only [List.getElem?_toArray, List.getElem?_cons_succ, List.getElem?_cons_zero]; rfl) (by kernel_rfl) (by kernel_rfl) (by kernel_rfl) (fun _ _ _ h => by exact h) (.inl ⟨by rfl, fun u hu => by go_simp; try with_reducible rfl⟩) HS.out ?_
    try simp only [List.getElem_toArray, List.getElem_cons_succ, List.getElem_cons_zero, Act.put, List.setIfInBounds_toArray, List.set_cons_zero, List.set_cons_succ]
    change wpAnyH _ _ _ _ _ (3 + 1) _ _ _
    refine wpAnyH_take (i := 8) (by simp only [List.getElem?_toArray, List.getElem?_cons_succ, List.getElem?_cons_zero]; rfl) (by kernel_rfl) (by kernel_rfl) (by kernel_rfl) (fun _ _ _ h => by exact h) (.inl ⟨by rfl, fun u hu => by go_simp; try with_reducible rfl⟩) HS.out ?_
    try simp only [List.getElem_toArray, List.getElem_cons_succ, List.getElem_cons_zero, Act.put, List.setIfInBounds_toArray, List.set_cons_zero, List.set_cons_succ]
    change wpAnyH _ _ _ _ _ (2 + 1) _ _ _
    refine wpAnyH_take (i := 9) (by simp only [List.getElem?_toArray, List.getElem?_cons_succ, List.getElem?_cons_zero]; rfl) (by kernel_rfl) (by kernel_rfl) (by kernel_rfl) (fun _ _ _ h => by exact h) (.inl ⟨by rfl, fun u hu => by go_simp; try with_reducible rfl⟩) HS.out ?_
    try simp only [List.getElem_toArray, List.getElem_cons_succ, List.getElem_cons_zero, Act.put, List.setIfInBounds_toArray, List.set_cons_zero, List.set_cons_succ]
    change wpAnyH _ _ _ _ _ (1 + 1) _ _ _
    refine wpAnyH_take (i := 10) (by simp only [List.getElem?_toArray, List.getElem?_cons_succ, List.getElem?_cons_zero]; rfl) (by kernel_rfl) (by kernel_rfl) (by kernel_rfl) (fun _ _ _ h => by exact h) (.inl ⟨by rfl, fun u hu => by go_simp; try with_reducible rfl⟩) HS.out ?_
    try simp only [List.getElem_toArray, List.getElem_cons_succ, List.getElem_cons_zero, Act.put, List.setIfInBounds_toArray, List.set_cons_zero, List.set_cons_succ]
    change wpAnyH _ _ _ _ _ (0 + 1) _ _ _
    refine wpAnyH_take (i := 11) (by simp only [List.getElem?_toArray, List.getElem?_cons_succ, List.getElem?_cons_zero]; rfl) (by kernel_rfl) (by kernel_rfl) (by kernel_rfl) (fun _ _ _ h => by exact h) (.inl ⟨by rfl, fun u hu => by go_simp; try with_reducible rfl⟩) HS.out ?_
    try simp only [List.getElem_toArray, List.getElem_cons_succ, List.getElem_cons_zero, Act.put, List.setIfInBounds_toArray, List.set_cons_zero, List.set_cons_succ]
    refine wpAnyH_done (by kernel_rfl) ?_ _
    clear j0 j1 j2
    obtain ⟨m4, m5, m3⟩ := FM.out
    go_upto_region 12 with ((first
      | ((with_reducible refine (RN1.out _).mono ?_); rintro e w ⟨rfl, hb⟩; replace HM := Lib.hid (HM.out.next hb); clear hb)))
    have HS := Lib.hid (Hold.Hld.drew (show Hold.Hld _ [⟨b6, 38, zeroS⟩] w from HM.out))
    replace HM := Lib.hid HM.out.drew
    refine wp_region_held (S := fun u => Hold.Hld w0 [⟨b6, 38, zeroS⟩] u) (by kernel_rfl) ?_
    change wpAnyH _ _ _ _ _ _ _ _ w.drew
    generalize w.drew = wd at *
    change wpAnyH _ _ _ _ _ (11 + 1) _ _ _
    refine wpAnyH_take (i := 0) (by simp only [List.getElem?_toArray, List.getElem?_cons_succ, List.getElem?_cons_zero]; rfl) (by kernel_rfl) (by kernel_rfl) (by kernel_rfl) (fun _ _ _ h => by exact h) (.inl ⟨by rfl, fun u hu => by go_simp; try with_reducible rfl⟩) HS.out ?_
    try simp only [List.getElem_toArray, List.getElem_cons_succ, List.getElem_cons_zero, Act.put, List.setIfInBounds_toArray, List.set_cons_zero, List.set_cons_succ]
    change wpAnyH _ _ _ _ _ (10 + 1) _ _ _
    refine wpAnyH_take (i := 1) (by simp only [List.getElem?_toArray, List.getElem?_cons_succ, List.getElem?_cons_zero]; rfl) (by kernel_rfl) (by kernel_rfl) (by kernel_rfl) (fun _ _ _ h => by exact h) (.inl ⟨by rfl, fun u hu => by go_simp; try with_reducible rfl⟩) HS.out ?_
    try simp only [List.getElem_toArray, List.getElem_cons_succ, List.getElem_cons_zero, Act.put, List.setIfInBounds_toArray, List.set_cons_zero, List.set_cons_succ]
    change wpAnyH _ _ _ _ _ (9 + 1) _ _ _
    refine wpAnyH_take (i := 2) (by simp only [List.getElem?_toArray, List.getElem?_cons_succ, List.getElem?_cons_zero]; rfl) (by kernel_rfl) (by kernel_rfl) (by kernel_rfl) (fun _ _ _ h => by exact h) (.inl ⟨by rfl, fun u hu => by go_simp; try with_reducible rfl⟩) HS.out ?_
    try simp only [List.getElem_toArray, List.getElem_cons_succ, List.getElem_cons_zero, Act.put, List.setIfInBounds_toArray, List.set_cons_zero, List.set_cons_succ]
    change wpAnyH _ _ _ _ _ (8 + 1) _ _ _
    refine wpAnyH_take (i := 3) (by simp only [List.getElem?_toArray, List.getElem?_cons_succ, List.getElem?_cons_zero]; rfl) (by kernel_rfl) (by kernel_rfl) (by kernel_rfl) (fun _ _ _ h => by exact h) (.inl ⟨by rfl, fun u hu => by go_simp; try with_reducible rfl⟩) HS.out ?_
    try simp only [List.getElem_toArray, List.getElem_cons_succ, List.getElem_cons_zero, Act.put, List.setIfInBounds_toArray, List.set_cons_zero, List.set_cons_succ]
    change wpAnyH _ _ _ _ _ (7 + 1) _ _ _
    refine wpAnyH_take (i := 4) (by simp only [List.getElem?_toArray, List.getElem?_cons_succ, List.getElem?_cons_zero]; rfl) (by kernel_rfl) (by kernel_rfl) (by kernel_rfl) (fun _ _ _ h => by exact h) (.inl ⟨by rfl, fun u hu => by go_simp; try with_reducible rfl⟩) HS.out ?_
    try simp only [List.getElem_toArray, List.getElem_cons_succ, List.getElem_cons_zero, Act.put, List.setIfInBounds_toArray, List.set_cons_zero, List.set_cons_succ]
    change wpAnyH _ _ _ _ _ (6 + 1) _ _ _
    refine wpAnyH_take (i := 5) (by simp only [List.getElem?_toArray, List.getElem?_cons_succ, List.getElem?_cons_zero]; rfl) (by kernel_rfl) (by kernel_rfl) (by kernel_rfl) (fun _ _ _ h => by exact h) (.inl ⟨by rfl, fun u hu => by go_simp; try with_reducible rfl⟩) HS.out ?_
    try simp only [List.getElem_toArray, List.getElem_cons_succ, List.getElem_cons_zero, Act.put, List.setIfInBounds_toArray, List.set_cons_zero, List.set_cons_succ]
    change wpAnyH _ _ _ _ _ (5 + 1) _ _ _
    refine wpAnyH_take (i := 6) (by simp only [List.getElem?_toArray, List.getElem?_cons_succ, List.getElem?_cons_zero]; rfl) (by kernel_rfl) (by kernel_rfl) (by kernel_rfl) (fun _ _ _ h => by exact h) (.inl ⟨by rfl, fun u hu => by go_simp; try with_reducible rfl⟩) HS.out ?_
    try simp only [List.getElem_toArray, List.getElem_cons_succ, List.getElem_cons_zero, Act.put, List.setIfInBounds_toArray, List.set_cons_zero, List.set_cons_succ]
    change wpAnyH _ _ _ _ _ (4 + 1) _ _ _
    refine wpAnyH_take (i := 7) (by simp only [List.getElem?_toArray, List.getElem?_cons_succ, List.getElem?_cons_zero]; rfl) (by kernel_rfl) (by kernel_rfl) (by kernel_rfl) (fun _ _ _ h => by exact h) (.inl ⟨by rfl, fun u hu => by go_simp; try with_reducible rfl⟩) HS.out ?_
    try simp only [List.getElem_toArray, List.getElem_cons_succ, List.getElem_cons_zero, Act.put, List.setIfInBounds_toArray, List.set_cons_zero, List.set_cons_succ]
    change wpAnyH _ _ _ _ _ (3 + 1) _ _ _
    refine wpAnyH_take (i := 8) (by simp only [List.getElem?_toArray, List.getElem?_cons_succ, List.getElem?_cons_zero]; rfl) (by kernel_rfl) (by kernel_rfl) (by kernel_rfl) (fun _ _ _ h => by exact h) (.inl ⟨by rfl, fun u hu => by go_simp; try with_reducible rfl⟩) HS.out ?_
    try simp only [List.getElem_toArray, List.getElem_cons_succ, List.getElem_cons_zero, Act.put, List.setIfInBounds_toArray, List.set_cons_zero, List.set_cons_succ]
    change wpAnyH _ _ _ _ _ (2 + 1) _ _ _
    refine wpAnyH_take (i := 9) (v := .agg (sayV y).toArray) (by simp only [List.getElem?_toArray, List.getElem?_cons_succ, List.getElem?_cons_zero]; rfl) (by kernel_rfl) (by kernel_rfl) (by kernel_rfl) (fun _ _ _ h => by exact h) (.inl ⟨by rfl, fun u hu => Hold.build_run (t := 38) (parts := #[(0, .tmp 68), (1, .tmp 69), (2, .tmp 72), (3, .tmp 76)]) rfl (by first | exact hbt | (simp [Act.eval, Act.put]; exact hbt))⟩) HS.out ?_
    try simp only [List.getElem_toArray, List.getElem_cons_succ, List.getElem_cons_zero, Act.put, List.setIfInBounds_toArray, List.set_cons_zero, List.set_cons_succ]
    change wpAnyH _ _ _ _ _ (1 + 1) _ _ _
    refine wpAnyH_all (rs := [10]) (by kernel_rfl) (by simp) (fun j hj => ?_)
    obtain rfl : j = 10 := by simpa using hj
    refine Hold.op_alloc HM.out (by simp only [List.getElem?_toArray, List.getElem?_cons_succ, List.getElem?_cons_zero]; rfl) rfl rfl zeroS zero_said ?_
    clear HM
    intro ba_1 wa_1 HM
    simp only [List.cons_append, List.nil_append] at HM
    replace HM := Lib.hid HM
    replace HS := Lib.hid (show Hold.Hld _ [⟨b6, 38, zeroS⟩] _ from Hold.Hld.front (m' := [_]) HM.out)
    refine ⟨HS.out, ?_⟩
    try simp only [List.getElem_toArray, List.getElem_cons_succ, List.getElem_cons_zero, Act.put, List.setIfInBounds_toArray, List.set_cons_zero, List.set_cons_succ]
    change wpAnyH _ _ _ _ _ (0 + 1) _ _ _
    refine wpAnyH_all (rs := [11]) (by kernel_rfl) (by simp) (fun j hj => ?_)
    obtain rfl : j = 11 := by simpa using hj
    refine op_store_any HM.out 1 (i := 11) (v' := sayV y) (by simp only [List.getElem?_toArray, List.getElem?_cons_succ, List.getElem?_cons_zero]; rfl) rfl rfl rfl rfl rfl (say_fits _ _) (say_laid _ _) (say_one _) (sayRow _) ?_
    clear HM
    intro ws_2 HM
    simp only [List.set_cons_zero, List.set_cons_succ] at HM
    replace HM := Lib.hid HM
    replace HS := Lib.hid (show Hold.Hld _ [⟨b6, 38, zeroS⟩] _ from Hold.Hld.front (m' := [_]) HM.out)
    refine ⟨HS.out, ?_⟩
    try simp only [List.getElem_toArray, List.getElem_cons_succ, List.getElem_cons_zero, Act.put, List.setIfInBounds_toArray, List.set_cons_zero, List.set_cons_succ]
    refine wpAnyH_done (by kernel_rfl) ?_ _
    go_wp2_with ((first
      | ((refine Hold.build (t := 38) (parts := #[]) (cs := sayV zeroX) rfl rfl ?_ ?_); focus (exact built_none))
      | ((with_reducible refine Hold.store HM.out 0 (v' := sayV zeroX) rfl rfl rfl rfl rfl (say_fits zeroX zeroX) (say_laid zeroX zeroX) (say_one zeroX) (sayRow zeroX) ?_); clear HM; intro w HM; simp only [List.set_cons_zero, List.set_cons_succ] at HM; replace HM := Lib.hid HM)))
    refine bodyPost_ret (Hold.resultsCT HM.out 0 rfl _ rfl rfl rfl (sayRow zeroX)) rfl ?_
    exact ⟨rfl, HM.out.below⟩
  have d7 : ((N2 : Int) != 0) = false := by rw [A7]; rfl
  by_cases A8 : B2 = true
  case neg =>
    obtain rfl : B2 = false := by simpa using A8
    clear A8
    have h1 : readE t.data.toList (cn : Int) (gn : Int) = 3 := by rw [HE1.out, if_pos (show badForm b (cn : Int) from Or.inr (Or.inr (Or.inr ⟨by rw [← HN1.out]; exact A6, Or.inr (by rw [hct]; exact hB2.symm)⟩)))]
    obtain rfl : E = 3 := by rw [HE.out, h1]
    obtain rfl := hbad 3 h1 (by decide)
    try clear hle
    try clear hB2
    try clear A6
    try clear A7
    clear hY HE hbad h1 HE1 HG hc hs hSD hRS hBD zSD zRS zBD hop hb hbl HN0 HN1 HN2 hTX hSG HTL hGp hts HX0 hTZ hTT hB1
    go_enter Tryz.func24, Tryz.ntmps24
    obtain ⟨i0, m0, m1, m2⟩ := FX.out
    go_upto_region 8 with ((first
      | ((with_reducible refine Hold.alloc HM.out rfl rfl zeroS zero_said ?_); clear HM; intro b6 w HM; simp only [List.nil_append, List.cons_append] at HM; replace HM := Lib.hid HM)
      | ((with_reducible refine (RL.out _).mono ?_); rintro e w ⟨rfl, hb⟩; replace HM := Lib.hid (HM.out.next hb); clear hb)
      | ((with_reducible refine (RM.out _).mono ?_); rintro e w ⟨rfl, hb⟩; replace HM := Lib.hid (HM.out.next hb); clear hb)))
    clear i0 m0 m1
    obtain ⟨j0, j1, j2⟩ := FJ.out
    obtain ⟨v0, v1, v2⟩ := FV.out
    have HS := Lib.hid (Hold.Hld.drew (show Hold.Hld _ [⟨b6, 38, zeroS⟩] w from HM.out))
    replace HM := Lib.hid HM.out.drew
    refine wp_region_held (S := fun u => Hold.Hld w0 [⟨b6, 38, zeroS⟩] u) (by kernel_rfl) ?_
    change wpAnyH _ _ _ _ _ _ _ _ w.drew
    generalize w.drew = wd at *
    change wpAnyH _ _ _ _ _ (11 + 1) _ _ _
    refine wpAnyH_take (i := 0) (by simp only [List.getElem?_toArray, List.getElem?_cons_succ, List.getElem?_cons_zero]; rfl) (by kernel_rfl) (by kernel_rfl) (by kernel_rfl) (fun _ _ _ h => by exact h) (.inl ⟨by rfl, fun u hu => by go_simp; try with_reducible rfl⟩) HS.out ?_
    try simp only [List.getElem_toArray, List.getElem_cons_succ, List.getElem_cons_zero, Act.put, List.setIfInBounds_toArray, List.set_cons_zero, List.set_cons_succ]
    change wpAnyH _ _ _ _ _ (10 + 1) _ _ _
    refine wpAnyH_take (i := 1) (by simp only [List.getElem?_toArray, List.getElem?_cons_succ, List.getElem?_cons_zero]; rfl) (by kernel_rfl) (by kernel_rfl) (by kernel_rfl) (fun _ _ _ h => by exact h) (.inl ⟨by rfl, fun u hu => by go_simp; try with_reducible rfl⟩) HS.out ?_
    try simp only [List.getElem_toArray, List.getElem_cons_succ, List.getElem_cons_zero, Act.put, List.setIfInBounds_toArray, List.set_cons_zero, List.set_cons_succ]
    change wpAnyH _ _ _ _ _ (9 + 1) _ _ _
    refine wpAnyH_take (i := 2) (by simp only [List.getElem?_toArray, List.getElem?_cons_succ, List.getElem?_cons_zero]; rfl) (by kernel_rfl) (by kernel_rfl) (by kernel_rfl) (fun _ _ _ h => by exact h) (.inl ⟨by rfl, fun u hu => by go_simp; try with_reducible rfl⟩) HS.out ?_
    try simp only [List.getElem_toArray, List.getElem_cons_succ, List.getElem_cons_zero, Act.put, List.setIfInBounds_toArray, List.set_cons_zero, List.set_cons_succ]
    change wpAnyH _ _ _ _ _ (8 + 1) _ _ _
    refine wpAnyH_take (i := 3) (by simp only [List.getElem?_toArray, List.getElem?_cons_succ, List.getElem?_cons_zero]; rfl) (by kernel_rfl) (by kernel_rfl) (by kernel_rfl) (fun _ _ _ h => by exact h) (.inl ⟨by rfl, fun u hu => by go_simp; try with_reducible rfl⟩) HS.out ?_
    try simp only [List.getElem_toArray, List.getElem_cons_succ, List.getElem_cons_zero, Act.put, List.setIfInBounds_toArray, List.set_cons_zero, List.set_cons_succ]
    change wpAnyH _ _ _ _ _ (7 + 1) _ _ _
    refine wpAnyH_take (i := 4) (by simp only [List.getElem?_toArray, List.getElem?_cons_succ, List.getElem?_cons_zero]; rfl) (by kernel_rfl) (by kernel_rfl) (by kernel_rfl) (fun _ _ _ h => by exact h) (.inl ⟨by rfl, fun u hu => by go_simp; try with_reducible rfl⟩) HS.out ?_
    try simp only [List.getElem_toArray, List.getElem_cons_succ, List.getElem_cons_zero, Act.put, List.setIfInBounds_toArray, List.set_cons_zero, List.set_cons_succ]
    change wpAnyH _ _ _ _ _ (6 + 1) _ _ _
    refine wpAnyH_take (i := 5) (by simp only [List.getElem?_toArray, List.getElem?_cons_succ, List.getElem?_cons_zero]; rfl) (by kernel_rfl) (by kernel_rfl) (by kernel_rfl) (fun _ _ _ h => by exact h) (.inl ⟨by rfl, fun u hu => by go_simp; try with_reducible rfl⟩) HS.out ?_
    try simp only [List.getElem_toArray, List.getElem_cons_succ, List.getElem_cons_zero, Act.put, List.setIfInBounds_toArray, List.set_cons_zero, List.set_cons_succ]
    change wpAnyH _ _ _ _ _ (5 + 1) _ _ _
    refine wpAnyH_take (i := 6) (by simp only [List.getElem?_toArray, List.getElem?_cons_succ, List.getElem?_cons_zero]; rfl) (by kernel_rfl) (by kernel_rfl) (by kernel_rfl) (fun _ _ _ h => by exact h) (.inl ⟨by rfl, fun u hu => by go_simp; try with_reducible rfl⟩) HS.out ?_
    try simp only [List.getElem_toArray, List.getElem_cons_succ, List.getElem_cons_zero, Act.put, List.setIfInBounds_toArray, List.set_cons_zero, List.set_cons_succ]
    change wpAnyH _ _ _ _ _ (4 + 1) _ _ _
    refine wpAnyH_take (i := 7) (by simp only [List.getElem?_toArray, List.getElem?_cons_succ, List.getElem?_cons_zero]; rfl) (by kernel_rfl) (by kernel_rfl) (by kernel_rfl) (fun _ _ _ h => by exact h) (.inl ⟨by rfl, fun u hu => by go_simp; try with_reducible rfl⟩) HS.out ?_
    try simp only [List.getElem_toArray, List.getElem_cons_succ, List.getElem_cons_zero, Act.put, List.setIfInBounds_toArray, List.set_cons_zero, List.set_cons_succ]
    change wpAnyH _ _ _ _ _ (3 + 1) _ _ _
    refine wpAnyH_take (i := 8) (by simp only [List.getElem?_toArray, List.getElem?_cons_succ, List.getElem?_cons_zero]; rfl) (by kernel_rfl) (by kernel_rfl) (by kernel_rfl) (fun _ _ _ h => by exact h) (.inl ⟨by rfl, fun u hu => by go_simp; try with_reducible rfl⟩) HS.out ?_
    try simp only [List.getElem_toArray, List.getElem_cons_succ, List.getElem_cons_zero, Act.put, List.setIfInBounds_toArray, List.set_cons_zero, List.set_cons_succ]
    change wpAnyH _ _ _ _ _ (2 + 1) _ _ _
    refine wpAnyH_take (i := 9) (by simp only [List.getElem?_toArray, List.getElem?_cons_succ, List.getElem?_cons_zero]; rfl) (by kernel_rfl) (by kernel_rfl) (by kernel_rfl) (fun _ _ _ h => by exact h) (.inl ⟨by rfl, fun u hu => by go_simp; try with_reducible rfl⟩) HS.out ?_
    try simp only [List.getElem_toArray, List.getElem_cons_succ, List.getElem_cons_zero, Act.put, List.setIfInBounds_toArray, List.set_cons_zero, List.set_cons_succ]
    change wpAnyH _ _ _ _ _ (1 + 1) _ _ _
    refine wpAnyH_take (i := 10) (by simp only [List.getElem?_toArray, List.getElem?_cons_succ, List.getElem?_cons_zero]; rfl) (by kernel_rfl) (by kernel_rfl) (by kernel_rfl) (fun _ _ _ h => by exact h) (.inl ⟨by rfl, fun u hu => by go_simp; try with_reducible rfl⟩) HS.out ?_
    try simp only [List.getElem_toArray, List.getElem_cons_succ, List.getElem_cons_zero, Act.put, List.setIfInBounds_toArray, List.set_cons_zero, List.set_cons_succ]
    change wpAnyH _ _ _ _ _ (0 + 1) _ _ _
    refine wpAnyH_take (i := 11) (by simp only [List.getElem?_toArray, List.getElem?_cons_succ, List.getElem?_cons_zero]; rfl) (by kernel_rfl) (by kernel_rfl) (by kernel_rfl) (fun _ _ _ h => by exact h) (.inl ⟨by rfl, fun u hu => by go_simp; try with_reducible rfl⟩) HS.out ?_
    try simp only [List.getElem_toArray, List.getElem_cons_succ, List.getElem_cons_zero, Act.put, List.setIfInBounds_toArray, List.set_cons_zero, List.set_cons_succ]
    refine wpAnyH_done (by kernel_rfl) ?_ _
    clear j0 j1 j2
    obtain ⟨m4, m5, m3⟩ := FM.out
    go_upto_region 12 with ((first
      | ((with_reducible refine (RN1.out _).mono ?_); rintro e w ⟨rfl, hb⟩; replace HM := Lib.hid (HM.out.next hb); clear hb)))
    have HS := Lib.hid (Hold.Hld.drew (show Hold.Hld _ [⟨b6, 38, zeroS⟩] w from HM.out))
    replace HM := Lib.hid HM.out.drew
    refine wp_region_held (S := fun u => Hold.Hld w0 [⟨b6, 38, zeroS⟩] u) (by kernel_rfl) ?_
    change wpAnyH _ _ _ _ _ _ _ _ w.drew
    generalize w.drew = wd at *
    change wpAnyH _ _ _ _ _ (11 + 1) _ _ _
    refine wpAnyH_take (i := 0) (by simp only [List.getElem?_toArray, List.getElem?_cons_succ, List.getElem?_cons_zero]; rfl) (by kernel_rfl) (by kernel_rfl) (by kernel_rfl) (fun _ _ _ h => by exact h) (.inl ⟨by rfl, fun u hu => by go_simp; try with_reducible rfl⟩) HS.out ?_
    try simp only [List.getElem_toArray, List.getElem_cons_succ, List.getElem_cons_zero, Act.put, List.setIfInBounds_toArray, List.set_cons_zero, List.set_cons_succ]
    change wpAnyH _ _ _ _ _ (10 + 1) _ _ _
    refine wpAnyH_take (i := 1) (by simp only [List.getElem?_toArray, List.getElem?_cons_succ, List.getElem?_cons_zero]; rfl) (by kernel_rfl) (by kernel_rfl) (by kernel_rfl) (fun _ _ _ h => by exact h) (.inl ⟨by rfl, fun u hu => by go_simp; try with_reducible rfl⟩) HS.out ?_
    try simp only [List.getElem_toArray, List.getElem_cons_succ, List.getElem_cons_zero, Act.put, List.setIfInBounds_toArray, List.set_cons_zero, List.set_cons_succ]
    change wpAnyH _ _ _ _ _ (9 + 1) _ _ _
    refine wpAnyH_take (i := 2) (by simp only [List.getElem?_toArray, List.getElem?_cons_succ, List.getElem?_cons_zero]; rfl) (by kernel_rfl) (by kernel_rfl) (by kernel_rfl) (fun _ _ _ h => by exact h) (.inl ⟨by rfl, fun u hu => by go_simp; try with_reducible rfl⟩) HS.out ?_
    try simp only [List.getElem_toArray, List.getElem_cons_succ, List.getElem_cons_zero, Act.put, List.setIfInBounds_toArray, List.set_cons_zero, List.set_cons_succ]
    change wpAnyH _ _ _ _ _ (8 + 1) _ _ _
    refine wpAnyH_take (i := 3) (by simp only [List.getElem?_toArray, List.getElem?_cons_succ, List.getElem?_cons_zero]; rfl) (by kernel_rfl) (by kernel_rfl) (by kernel_rfl) (fun _ _ _ h => by exact h) (.inl ⟨by rfl, fun u hu => by go_simp; try with_reducible rfl⟩) HS.out ?_
    try simp only [List.getElem_toArray, List.getElem_cons_succ, List.getElem_cons_zero, Act.put, List.setIfInBounds_toArray, List.set_cons_zero, List.set_cons_succ]
    change wpAnyH _ _ _ _ _ (7 + 1) _ _ _
    refine wpAnyH_take (i := 4) (by simp only [List.getElem?_toArray, List.getElem?_cons_succ, List.getElem?_cons_zero]; rfl) (by kernel_rfl) (by kernel_rfl) (by kernel_rfl) (fun _ _ _ h => by exact h) (.inl ⟨by rfl, fun u hu => by go_simp; try with_reducible rfl⟩) HS.out ?_
    try simp only [List.getElem_toArray, List.getElem_cons_succ, List.getElem_cons_zero, Act.put, List.setIfInBounds_toArray, List.set_cons_zero, List.set_cons_succ]
    change wpAnyH _ _ _ _ _ (6 + 1) _ _ _
    refine wpAnyH_take (i := 5) (by simp only [List.getElem?_toArray, List.getElem?_cons_succ, List.getElem?_cons_zero]; rfl) (by kernel_rfl) (by kernel_rfl) (by kernel_rfl) (fun _ _ _ h => by exact h) (.inl ⟨by rfl, fun u hu => by go_simp; try with_reducible rfl⟩) HS.out ?_
    try simp only [List.getElem_toArray, List.getElem_cons_succ, List.getElem_cons_zero, Act.put, List.setIfInBounds_toArray, List.set_cons_zero, List.set_cons_succ]
    change wpAnyH _ _ _ _ _ (5 + 1) _ _ _
    refine wpAnyH_take (i := 6) (by simp only [List.getElem?_toArray, List.getElem?_cons_succ, List.getElem?_cons_zero]; rfl) (by kernel_rfl) (by kernel_rfl) (by kernel_rfl) (fun _ _ _ h => by exact h) (.inl ⟨by rfl, fun u hu => by go_simp; try with_reducible rfl⟩) HS.out ?_
    try simp only [List.getElem_toArray, List.getElem_cons_succ, List.getElem_cons_zero, Act.put, List.setIfInBounds_toArray, List.set_cons_zero, List.set_cons_succ]
    change wpAnyH _ _ _ _ _ (4 + 1) _ _ _
    refine wpAnyH_take (i := 7) (by simp only [List.getElem?_toArray, List.getElem?_cons_succ, List.getElem?_cons_zero]; rfl) (by kernel_rfl) (by kernel_rfl) (by kernel_rfl) (fun _ _ _ h => by exact h) (.inl ⟨by rfl, fun u hu => by go_simp; try with_reducible rfl⟩) HS.out ?_
    try simp only [List.getElem_toArray, List.getElem_cons_succ, List.getElem_cons_zero, Act.put, List.setIfInBounds_toArray, List.set_cons_zero, List.set_cons_succ]
    change wpAnyH _ _ _ _ _ (3 + 1) _ _ _
    refine wpAnyH_take (i := 8) (by simp only [List.getElem?_toArray, List.getElem?_cons_succ, List.getElem?_cons_zero]; rfl) (by kernel_rfl) (by kernel_rfl) (by kernel_rfl) (fun _ _ _ h => by exact h) (.inl ⟨by rfl, fun u hu => by go_simp; try with_reducible rfl⟩) HS.out ?_
    try simp only [List.getElem_toArray, List.getElem_cons_succ, List.getElem_cons_zero, Act.put, List.setIfInBounds_toArray, List.set_cons_zero, List.set_cons_succ]
    change wpAnyH _ _ _ _ _ (2 + 1) _ _ _
    refine wpAnyH_take (i := 9) (v := .agg (sayV y).toArray) (by simp only [List.getElem?_toArray, List.getElem?_cons_succ, List.getElem?_cons_zero]; rfl) (by kernel_rfl) (by kernel_rfl) (by kernel_rfl) (fun _ _ _ h => by exact h) (.inl ⟨by rfl, fun u hu => Hold.build_run (t := 38) (parts := #[(0, .tmp 68), (1, .tmp 69), (2, .tmp 72), (3, .tmp 76)]) rfl (by first | exact hbt | (simp [Act.eval, Act.put]; exact hbt))⟩) HS.out ?_
    try simp only [List.getElem_toArray, List.getElem_cons_succ, List.getElem_cons_zero, Act.put, List.setIfInBounds_toArray, List.set_cons_zero, List.set_cons_succ]
    change wpAnyH _ _ _ _ _ (1 + 1) _ _ _
    refine wpAnyH_all (rs := [10]) (by kernel_rfl) (by simp) (fun j hj => ?_)
    obtain rfl : j = 10 := by simpa using hj
    refine Hold.op_alloc HM.out (by simp only [List.getElem?_toArray, List.getElem?_cons_succ, List.getElem?_cons_zero]; rfl) rfl rfl zeroS zero_said ?_
    clear HM
    intro ba_1 wa_1 HM
    simp only [List.cons_append, List.nil_append] at HM
    replace HM := Lib.hid HM
    replace HS := Lib.hid (show Hold.Hld _ [⟨b6, 38, zeroS⟩] _ from Hold.Hld.front (m' := [_]) HM.out)
    refine ⟨HS.out, ?_⟩
    try simp only [List.getElem_toArray, List.getElem_cons_succ, List.getElem_cons_zero, Act.put, List.setIfInBounds_toArray, List.set_cons_zero, List.set_cons_succ]
    change wpAnyH _ _ _ _ _ (0 + 1) _ _ _
    refine wpAnyH_all (rs := [11]) (by kernel_rfl) (by simp) (fun j hj => ?_)
    obtain rfl : j = 11 := by simpa using hj
    refine op_store_any HM.out 1 (i := 11) (v' := sayV y) (by simp only [List.getElem?_toArray, List.getElem?_cons_succ, List.getElem?_cons_zero]; rfl) rfl rfl rfl rfl rfl (say_fits _ _) (say_laid _ _) (say_one _) (sayRow _) ?_
    clear HM
    intro ws_2 HM
    simp only [List.set_cons_zero, List.set_cons_succ] at HM
    replace HM := Lib.hid HM
    replace HS := Lib.hid (show Hold.Hld _ [⟨b6, 38, zeroS⟩] _ from Hold.Hld.front (m' := [_]) HM.out)
    refine ⟨HS.out, ?_⟩
    try simp only [List.getElem_toArray, List.getElem_cons_succ, List.getElem_cons_zero, Act.put, List.setIfInBounds_toArray, List.set_cons_zero, List.set_cons_succ]
    refine wpAnyH_done (by kernel_rfl) ?_ _
    have q3 : ws_2.cell? ⟨ba_1, 3, none⟩ = some (.string SG) := (HM.out.at 1 rfl).row.cell hy3
    go_wp2_with ((first
      | ((with_reducible refine (RN2.out _).mono ?_); rintro e w ⟨rfl, hb⟩; replace HM := Lib.hid (HM.out.next hb); clear hb q3)
      | ((refine Hold.build (t := 38) (parts := #[]) (cs := sayV zeroX) rfl rfl ?_ ?_); focus (exact built_none))
      | ((with_reducible refine Hold.store HM.out 0 (v' := sayV zeroX) rfl rfl rfl rfl rfl (say_fits zeroX zeroX) (say_laid zeroX zeroX) (say_one zeroX) (sayRow zeroX) ?_); clear HM; intro w HM; simp only [List.set_cons_zero, List.set_cons_succ] at HM; replace HM := Lib.hid HM)))
    refine bodyPost_ret (Hold.resultsCT HM.out 0 rfl _ rfl rfl rfl (sayRow zeroX)) rfl ?_
    exact ⟨rfl, HM.out.below⟩
  subst A8
  obtain ⟨y2, hy2⟩ : ∃ y2 : SayB, y2 = ⟨(N0 : Int), (N2 : Int), TT, ⟨#[]⟩⟩ := ⟨_, rfl⟩
  have st2 : (sayV y).set 3 (.string ⟨#[]⟩) = sayV y2 := by rw [hy, hy2]; rfl
  have h1 : readE t.data.toList (cn : Int) (gn : Int) = 0 := by
    rw [HE1.out, if_neg]
    unfold badForm
    rw [← HN0.out, ← HN1.out, ← HN2.out, hct, ← hB1, ← hB2]
    rintro (h | h | h | ⟨-, h | h⟩)
    · exact A3 h
    · exact A4 (Int.ofNat_lt.1 h)
    · cases h
    · exact h A7
    · cases h
  obtain rfl : E = 0 := by rw [HE.out, h1]
  have hYy : Y = y2 := by
    rw [hY, hy2]
    unfold readX sayOf
    rw [if_pos h1, hop, ← hb, ← HN0.out, ← HN1.out, ← HN2.out, if_pos A6, hTT]
    rfl
  obtain rfl := hYy.symm
  · try clear hle
    try clear hB2
    try clear A6
    try clear A7
    clear hY HE hbad h1 HE1 HG hc hs hSD hRS hBD zSD zRS zBD hop hb hbl HN0 HN1 HN2 hTX hSG HTL hGp hts HX0 hTZ hTT hB1
    go_enter Tryz.func24, Tryz.ntmps24
    obtain ⟨i0, m0, m1, m2⟩ := FX.out
    go_upto_region 8 with ((first
      | ((with_reducible refine Hold.alloc HM.out rfl rfl zeroS zero_said ?_); clear HM; intro b6 w HM; simp only [List.nil_append, List.cons_append] at HM; replace HM := Lib.hid HM)
      | ((with_reducible refine (RL.out _).mono ?_); rintro e w ⟨rfl, hb⟩; replace HM := Lib.hid (HM.out.next hb); clear hb)
      | ((with_reducible refine (RM.out _).mono ?_); rintro e w ⟨rfl, hb⟩; replace HM := Lib.hid (HM.out.next hb); clear hb)))
    clear i0 m0 m1
    obtain ⟨j0, j1, j2⟩ := FJ.out
    obtain ⟨v0, v1, v2⟩ := FV.out
    have HS := Lib.hid (Hold.Hld.drew (show Hold.Hld _ [⟨b6, 38, zeroS⟩] w from HM.out))
    replace HM := Lib.hid HM.out.drew
    refine wp_region_held (S := fun u => Hold.Hld w0 [⟨b6, 38, zeroS⟩] u) (by kernel_rfl) ?_
    change wpAnyH _ _ _ _ _ _ _ _ w.drew
    generalize w.drew = wd at *
    change wpAnyH _ _ _ _ _ (11 + 1) _ _ _
    refine wpAnyH_take (i := 0) (by simp only [List.getElem?_toArray, List.getElem?_cons_succ, List.getElem?_cons_zero]; rfl) (by kernel_rfl) (by kernel_rfl) (by kernel_rfl) (fun _ _ _ h => by exact h) (.inl ⟨by rfl, fun u hu => by go_simp; try with_reducible rfl⟩) HS.out ?_
    try simp only [List.getElem_toArray, List.getElem_cons_succ, List.getElem_cons_zero, Act.put, List.setIfInBounds_toArray, List.set_cons_zero, List.set_cons_succ]
    change wpAnyH _ _ _ _ _ (10 + 1) _ _ _
    refine wpAnyH_take (i := 1) (by simp only [List.getElem?_toArray, List.getElem?_cons_succ, List.getElem?_cons_zero]; rfl) (by kernel_rfl) (by kernel_rfl) (by kernel_rfl) (fun _ _ _ h => by exact h) (.inl ⟨by rfl, fun u hu => by go_simp; try with_reducible rfl⟩) HS.out ?_
    try simp only [List.getElem_toArray, List.getElem_cons_succ, List.getElem_cons_zero, Act.put, List.setIfInBounds_toArray, List.set_cons_zero, List.set_cons_succ]
    change wpAnyH _ _ _ _ _ (9 + 1) _ _ _
    refine wpAnyH_take (i := 2) (by simp only [List.getElem?_toArray, List.getElem?_cons_succ, List.getElem?_cons_zero]; rfl) (by kernel_rfl) (by kernel_rfl) (by kernel_rfl) (fun _ _ _ h => by exact h) (.inl ⟨by rfl, fun u hu => by go_simp; try with_reducible rfl⟩) HS.out ?_
    try simp only [List.getElem_toArray, List.getElem_cons_succ, List.getElem_cons_zero, Act.put, List.setIfInBounds_toArray, List.set_cons_zero, List.set_cons_succ]
    change wpAnyH _ _ _ _ _ (8 + 1) _ _ _
    refine wpAnyH_take (i := 3) (by simp only [List.getElem?_toArray, List.getElem?_cons_succ, List.getElem?_cons_zero]; rfl) (by kernel_rfl) (by kernel_rfl) (by kernel_rfl) (fun _ _ _ h => by exact h) (.inl ⟨by rfl, fun u hu => by go_simp; try with_reducible rfl⟩) HS.out ?_
    try simp only [List.getElem_toArray, List.getElem_cons_succ, List.getElem_cons_zero, Act.put, List.setIfInBounds_toArray, List.set_cons_zero, List.set_cons_succ]
    change wpAnyH _ _ _ _ _ (7 + 1) _ _ _
    refine wpAnyH_take (i := 4) (by simp only [List.getElem?_toArray, List.getElem?_cons_succ, List.getElem?_cons_zero]; rfl) (by kernel_rfl) (by kernel_rfl) (by kernel_rfl) (fun _ _ _ h => by exact h) (.inl ⟨by rfl, fun u hu => by go_simp; try with_reducible rfl⟩) HS.out ?_
    try simp only [List.getElem_toArray, List.getElem_cons_succ, List.getElem_cons_zero, Act.put, List.setIfInBounds_toArray, List.set_cons_zero, List.set_cons_succ]
    change wpAnyH _ _ _ _ _ (6 + 1) _ _ _
    refine wpAnyH_take (i := 5) (by simp only [List.getElem?_toArray, List.getElem?_cons_succ, List.getElem?_cons_zero]; rfl) (by kernel_rfl) (by kernel_rfl) (by kernel_rfl) (fun _ _ _ h => by exact h) (.inl ⟨by rfl, fun u hu => by go_simp; try with_reducible rfl⟩) HS.out ?_
    try simp only [List.getElem_toArray, List.getElem_cons_succ, List.getElem_cons_zero, Act.put, List.setIfInBounds_toArray, List.set_cons_zero, List.set_cons_succ]
    change wpAnyH _ _ _ _ _ (5 + 1) _ _ _
    refine wpAnyH_take (i := 6) (by simp only [List.getElem?_toArray, List.getElem?_cons_succ, List.getElem?_cons_zero]; rfl) (by kernel_rfl) (by kernel_rfl) (by kernel_rfl) (fun _ _ _ h => by exact h) (.inl ⟨by rfl, fun u hu => by go_simp; try with_reducible rfl⟩) HS.out ?_
    try simp only [List.getElem_toArray, List.getElem_cons_succ, List.getElem_cons_zero, Act.put, List.setIfInBounds_toArray, List.set_cons_zero, List.set_cons_succ]
    change wpAnyH _ _ _ _ _ (4 + 1) _ _ _
    refine wpAnyH_take (i := 7) (by simp only [List.getElem?_toArray, List.getElem?_cons_succ, List.getElem?_cons_zero]; rfl) (by kernel_rfl) (by kernel_rfl) (by kernel_rfl) (fun _ _ _ h => by exact h) (.inl ⟨by rfl, fun u hu => by go_simp; try with_reducible rfl⟩) HS.out ?_
    try simp only [List.getElem_toArray, List.getElem_cons_succ, List.getElem_cons_zero, Act.put, List.setIfInBounds_toArray, List.set_cons_zero, List.set_cons_succ]
    change wpAnyH _ _ _ _ _ (3 + 1) _ _ _
    refine wpAnyH_take (i := 8) (by simp only [List.getElem?_toArray, List.getElem?_cons_succ, List.getElem?_cons_zero]; rfl) (by kernel_rfl) (by kernel_rfl) (by kernel_rfl) (fun _ _ _ h => by exact h) (.inl ⟨by rfl, fun u hu => by go_simp; try with_reducible rfl⟩) HS.out ?_
    try simp only [List.getElem_toArray, List.getElem_cons_succ, List.getElem_cons_zero, Act.put, List.setIfInBounds_toArray, List.set_cons_zero, List.set_cons_succ]
    change wpAnyH _ _ _ _ _ (2 + 1) _ _ _
    refine wpAnyH_take (i := 9) (by simp only [List.getElem?_toArray, List.getElem?_cons_succ, List.getElem?_cons_zero]; rfl) (by kernel_rfl) (by kernel_rfl) (by kernel_rfl) (fun _ _ _ h => by exact h) (.inl ⟨by rfl, fun u hu => by go_simp; try with_reducible rfl⟩) HS.out ?_
    try simp only [List.getElem_toArray, List.getElem_cons_succ, List.getElem_cons_zero, Act.put, List.setIfInBounds_toArray, List.set_cons_zero, List.set_cons_succ]
    change wpAnyH _ _ _ _ _ (1 + 1) _ _ _
    refine wpAnyH_take (i := 10) (by simp only [List.getElem?_toArray, List.getElem?_cons_succ, List.getElem?_cons_zero]; rfl) (by kernel_rfl) (by kernel_rfl) (by kernel_rfl) (fun _ _ _ h => by exact h) (.inl ⟨by rfl, fun u hu => by go_simp; try with_reducible rfl⟩) HS.out ?_
    try simp only [List.getElem_toArray, List.getElem_cons_succ, List.getElem_cons_zero, Act.put, List.setIfInBounds_toArray, List.set_cons_zero, List.set_cons_succ]
    change wpAnyH _ _ _ _ _ (0 + 1) _ _ _
    refine wpAnyH_take (i := 11) (by simp only [List.getElem?_toArray, List.getElem?_cons_succ, List.getElem?_cons_zero]; rfl) (by kernel_rfl) (by kernel_rfl) (by kernel_rfl) (fun _ _ _ h => by exact h) (.inl ⟨by rfl, fun u hu => by go_simp; try with_reducible rfl⟩) HS.out ?_
    try simp only [List.getElem_toArray, List.getElem_cons_succ, List.getElem_cons_zero, Act.put, List.setIfInBounds_toArray, List.set_cons_zero, List.set_cons_succ]
    refine wpAnyH_done (by kernel_rfl) ?_ _
    clear j0 j1 j2
    obtain ⟨m4, m5, m3⟩ := FM.out
    go_upto_region 12 with ((first
      | ((with_reducible refine (RN1.out _).mono ?_); rintro e w ⟨rfl, hb⟩; replace HM := Lib.hid (HM.out.next hb); clear hb)))
    have HS := Lib.hid (Hold.Hld.drew (show Hold.Hld _ [⟨b6, 38, zeroS⟩] w from HM.out))
    replace HM := Lib.hid HM.out.drew
    refine wp_region_held (S := fun u => Hold.Hld w0 [⟨b6, 38, zeroS⟩] u) (by kernel_rfl) ?_
    change wpAnyH _ _ _ _ _ _ _ _ w.drew
    generalize w.drew = wd at *
    change wpAnyH _ _ _ _ _ (11 + 1) _ _ _
    refine wpAnyH_take (i := 0) (by simp only [List.getElem?_toArray, List.getElem?_cons_succ, List.getElem?_cons_zero]; rfl) (by kernel_rfl) (by kernel_rfl) (by kernel_rfl) (fun _ _ _ h => by exact h) (.inl ⟨by rfl, fun u hu => by go_simp; try with_reducible rfl⟩) HS.out ?_
    try simp only [List.getElem_toArray, List.getElem_cons_succ, List.getElem_cons_zero, Act.put, List.setIfInBounds_toArray, List.set_cons_zero, List.set_cons_succ]
    change wpAnyH _ _ _ _ _ (10 + 1) _ _ _
    refine wpAnyH_take (i := 1) (by simp only [List.getElem?_toArray, List.getElem?_cons_succ, List.getElem?_cons_zero]; rfl) (by kernel_rfl) (by kernel_rfl) (by kernel_rfl) (fun _ _ _ h => by exact h) (.inl ⟨by rfl, fun u hu => by go_simp; try with_reducible rfl⟩) HS.out ?_
    try simp only [List.getElem_toArray, List.getElem_cons_succ, List.getElem_cons_zero, Act.put, List.setIfInBounds_toArray, List.set_cons_zero, List.set_cons_succ]
    change wpAnyH _ _ _ _ _ (9 + 1) _ _ _
    refine wpAnyH_take (i := 2) (by simp only [List.getElem?_toArray, List.getElem?_cons_succ, List.getElem?_cons_zero]; rfl) (by kernel_rfl) (by kernel_rfl) (by kernel_rfl) (fun _ _ _ h => by exact h) (.inl ⟨by rfl, fun u hu => by go_simp; try with_reducible rfl⟩) HS.out ?_
    try simp only [List.getElem_toArray, List.getElem_cons_succ, List.getElem_cons_zero, Act.put, List.setIfInBounds_toArray, List.set_cons_zero, List.set_cons_succ]
    change wpAnyH _ _ _ _ _ (8 + 1) _ _ _
    refine wpAnyH_take (i := 3) (by simp only [List.getElem?_toArray, List.getElem?_cons_succ, List.getElem?_cons_zero]; rfl) (by kernel_rfl) (by kernel_rfl) (by kernel_rfl) (fun _ _ _ h => by exact h) (.inl ⟨by rfl, fun u hu => by go_simp; try with_reducible rfl⟩) HS.out ?_
    try simp only [List.getElem_toArray, List.getElem_cons_succ, List.getElem_cons_zero, Act.put, List.setIfInBounds_toArray, List.set_cons_zero, List.set_cons_succ]
    change wpAnyH _ _ _ _ _ (7 + 1) _ _ _
    refine wpAnyH_take (i := 4) (by simp only [List.getElem?_toArray, List.getElem?_cons_succ, List.getElem?_cons_zero]; rfl) (by kernel_rfl) (by kernel_rfl) (by kernel_rfl) (fun _ _ _ h => by exact h) (.inl ⟨by rfl, fun u hu => by go_simp; try with_reducible rfl⟩) HS.out ?_
    try simp only [List.getElem_toArray, List.getElem_cons_succ, List.getElem_cons_zero, Act.put, List.setIfInBounds_toArray, List.set_cons_zero, List.set_cons_succ]
    change wpAnyH _ _ _ _ _ (6 + 1) _ _ _
    refine wpAnyH_take (i := 5) (by simp only [List.getElem?_toArray, List.getElem?_cons_succ, List.getElem?_cons_zero]; rfl) (by kernel_rfl) (by kernel_rfl) (by kernel_rfl) (fun _ _ _ h => by exact h) (.inl ⟨by rfl, fun u hu => by go_simp; try with_reducible rfl⟩) HS.out ?_
    try simp only [List.getElem_toArray, List.getElem_cons_succ, List.getElem_cons_zero, Act.put, List.setIfInBounds_toArray, List.set_cons_zero, List.set_cons_succ]
    change wpAnyH _ _ _ _ _ (5 + 1) _ _ _
    refine wpAnyH_take (i := 6) (by simp only [List.getElem?_toArray, List.getElem?_cons_succ, List.getElem?_cons_zero]; rfl) (by kernel_rfl) (by kernel_rfl) (by kernel_rfl) (fun _ _ _ h => by exact h) (.inl ⟨by rfl, fun u hu => by go_simp; try with_reducible rfl⟩) HS.out ?_
    try simp only [List.getElem_toArray, List.getElem_cons_succ, List.getElem_cons_zero, Act.put, List.setIfInBounds_toArray, List.set_cons_zero, List.set_cons_succ]
    change wpAnyH _ _ _ _ _ (4 + 1) _ _ _
    refine wpAnyH_take (i := 7) (by simp only [List.getElem?_toArray, List.getElem?_cons_succ, List.getElem?_cons_zero]; rfl) (by kernel_rfl) (by kernel_rfl) (by kernel_rfl) (fun _ _ _ h => by exact h) (.inl ⟨by rfl, fun u hu => by go_simp; try with_reducible rfl⟩) HS.out ?_
    try simp only [List.getElem_toArray, List.getElem_cons_succ, List.getElem_cons_zero, Act.put, List.setIfInBounds_toArray, List.set_cons_zero, List.set_cons_succ]
    change wpAnyH _ _ _ _ _ (3 + 1) _ _ _
    refine wpAnyH_take (i := 8) (by simp only [List.getElem?_toArray, List.getElem?_cons_succ, List.getElem?_cons_zero]; rfl) (by kernel_rfl) (by kernel_rfl) (by kernel_rfl) (fun _ _ _ h => by exact h) (.inl ⟨by rfl, fun u hu => by go_simp; try with_reducible rfl⟩) HS.out ?_
    try simp only [List.getElem_toArray, List.getElem_cons_succ, List.getElem_cons_zero, Act.put, List.setIfInBounds_toArray, List.set_cons_zero, List.set_cons_succ]
    change wpAnyH _ _ _ _ _ (2 + 1) _ _ _
    refine wpAnyH_take (i := 9) (v := .agg (sayV y).toArray) (by simp only [List.getElem?_toArray, List.getElem?_cons_succ, List.getElem?_cons_zero]; rfl) (by kernel_rfl) (by kernel_rfl) (by kernel_rfl) (fun _ _ _ h => by exact h) (.inl ⟨by rfl, fun u hu => Hold.build_run (t := 38) (parts := #[(0, .tmp 68), (1, .tmp 69), (2, .tmp 72), (3, .tmp 76)]) rfl (by first | exact hbt | (simp [Act.eval, Act.put]; exact hbt))⟩) HS.out ?_
    try simp only [List.getElem_toArray, List.getElem_cons_succ, List.getElem_cons_zero, Act.put, List.setIfInBounds_toArray, List.set_cons_zero, List.set_cons_succ]
    change wpAnyH _ _ _ _ _ (1 + 1) _ _ _
    refine wpAnyH_all (rs := [10]) (by kernel_rfl) (by simp) (fun j hj => ?_)
    obtain rfl : j = 10 := by simpa using hj
    refine Hold.op_alloc HM.out (by simp only [List.getElem?_toArray, List.getElem?_cons_succ, List.getElem?_cons_zero]; rfl) rfl rfl zeroS zero_said ?_
    clear HM
    intro ba_1 wa_1 HM
    simp only [List.cons_append, List.nil_append] at HM
    replace HM := Lib.hid HM
    replace HS := Lib.hid (show Hold.Hld _ [⟨b6, 38, zeroS⟩] _ from Hold.Hld.front (m' := [_]) HM.out)
    refine ⟨HS.out, ?_⟩
    try simp only [List.getElem_toArray, List.getElem_cons_succ, List.getElem_cons_zero, Act.put, List.setIfInBounds_toArray, List.set_cons_zero, List.set_cons_succ]
    change wpAnyH _ _ _ _ _ (0 + 1) _ _ _
    refine wpAnyH_all (rs := [11]) (by kernel_rfl) (by simp) (fun j hj => ?_)
    obtain rfl : j = 11 := by simpa using hj
    refine op_store_any HM.out 1 (i := 11) (v' := sayV y) (by simp only [List.getElem?_toArray, List.getElem?_cons_succ, List.getElem?_cons_zero]; rfl) rfl rfl rfl rfl rfl (say_fits _ _) (say_laid _ _) (say_one _) (sayRow _) ?_
    clear HM
    intro ws_2 HM
    simp only [List.set_cons_zero, List.set_cons_succ] at HM
    replace HM := Lib.hid HM
    replace HS := Lib.hid (show Hold.Hld _ [⟨b6, 38, zeroS⟩] _ from Hold.Hld.front (m' := [_]) HM.out)
    refine ⟨HS.out, ?_⟩
    try simp only [List.getElem_toArray, List.getElem_cons_succ, List.getElem_cons_zero, Act.put, List.setIfInBounds_toArray, List.set_cons_zero, List.set_cons_succ]
    refine wpAnyH_done (by kernel_rfl) ?_ _
    have q3 : ws_2.cell? ⟨ba_1, 3, none⟩ = some (.string SG) := (HM.out.at 1 rfl).row.cell hy3
    go_wp2_with ((first
      | ((with_reducible refine (RN2.out _).mono ?_); rintro e w ⟨rfl, hb⟩; replace HM := Lib.hid (HM.out.next hb); clear hb q3)
      | ((with_reducible refine Hold.store1 HM.out 1 (c := .string ⟨#[]⟩) (v' := sayV y2) rfl rfl rfl rfl rfl (say_lt _ 3 (by decide)) st2 ⟨rfl, rfl⟩ Frm.cellStr ?_); clear HM; intro w HM; simp only [List.set_cons_zero, List.set_cons_succ] at HM; replace HM := Lib.hid HM)
      | (with_reducible refine Hold.load HM.out 1 (cs := sayV y2) rfl rfl rfl rfl (Hold.Part.all _) (sayRow _) ?_)
      | ((with_reducible refine Hold.store HM.out 0 (v' := sayV y2) rfl rfl rfl rfl rfl (say_fits y2 zeroX) (say_laid y2 zeroX) (say_one y2) (sayRow y2) ?_); clear HM; intro w HM; simp only [List.set_cons_zero, List.set_cons_succ] at HM; replace HM := Lib.hid HM)))
    refine bodyPost_ret (Hold.resultsCT HM.out 0 rfl _ rfl rfl rfl (sayRow y2)) rfl ?_
    exact ⟨rfl, HM.out.below⟩
end Go.Proofs.YtedgpglldlohfaaGreatDoor.RFrm
