/-
  BookSigns: what is signed is taken, as the document says, in both kinds of books, and the third time there is none: for every list of cells and any three texts the law answers true and changes nothing that was there. Conditions: the listed tables hold what the program lays there; of package book the texts in this folder say how it answers (Con).
-/
import Derived.Test.YtdhipdoaefdfeaaGreatDoorBkW
import Derived.Test.YtdhipdoaefdfeaaGreatDoorBkK
import Derived.Test.YtdhipdoaefdfeaaGreatDoorBke
namespace Go.Proofs.YtdhipdoaefdfeaaGreatDoor.LawBSg
open Go.ChangeShapes Go.WideShapes Go.ChangeAt Go.RowKit Mur Prt Lanes Tap Bkl Bkm Rec Cel Bkr Bkw
open Go.ChangeMaps (open_string shut_string)
set_option maxRecDepth 100000
set_option linter.unusedSimpArgs false

/-- A book's eleven cells, written out. -/
theorem lit {w : World} {b : Bk} {v : List Value} {A : Nat → Prop} (h : BkR w b v A) : ∃ a4 n4 c4 a5 n5 c5 a6 n6 c6 a7 n7 c7 a8 n8 c8 a9 n9 c9 a10 n10 c10, v = [.bool b.ideal, .string (tx b.seed), .int .i64 2, .int .i64 1, .slice a4 n4 c4, .slice a5 n5 c5, .slice a6 n6 c6, .slice a7 n7 c7, .slice a8 n8 c8, .slice a9 n9 c9, .slice a10 n10 c10] := by
  obtain ⟨x0, x1, x2, x3, x4, x5, x6, x7, x8, x9, x10, rfl⟩ := eleven h.len
  obtain rfl := Option.some.inj h.at0
  obtain rfl := Option.some.inj h.at1
  obtain rfl := Option.some.inj h.at2
  obtain rfl := Option.some.inj h.at3
  obtain ⟨a4, n4, c4, h4, -⟩ := h.at4
  obtain rfl := Option.some.inj h4
  obtain ⟨a5, n5, c5, h5, -⟩ := h.at5
  obtain rfl := Option.some.inj h5
  obtain ⟨a6, n6, c6, h6, -⟩ := h.at6
  obtain rfl := Option.some.inj h6
  obtain ⟨a7, n7, c7, h7, -⟩ := h.at7
  obtain rfl := Option.some.inj h7
  obtain ⟨a8, n8, c8, h8, -⟩ := h.at8
  obtain rfl := Option.some.inj h8
  obtain ⟨a9, n9, c9, h9, -⟩ := h.at9
  obtain rfl := Option.some.inj h9
  obtain ⟨a10, n10, c10, h10, -⟩ := h.at10
  obtain rfl := Option.some.inj h10
  exact ⟨_, _, _, _, _, _, _, _, _, _, _, _, _, _, _, _, _, _, _, _, _, rfl⟩

theorem eleven_in {w : World} {b : Nat} {t : TypeId} (k : Mur.Whole w b t zeroBk) : w.cell? ⟨b, 0, none⟩ = some (.bool false) ∧ w.cell? ⟨b, 1, none⟩ = some (.string ⟨#[]⟩) ∧ w.cell? ⟨b, 2, none⟩ = some (.int .i64 0) ∧ w.cell? ⟨b, 3, none⟩ = some (.int .i64 0) ∧ w.cell? ⟨b, 4, none⟩ = some (.slice none 0 0) ∧ w.cell? ⟨b, 5, none⟩ = some (.slice none 0 0) ∧ w.cell? ⟨b, 6, none⟩ = some (.slice none 0 0) ∧ w.cell? ⟨b, 7, none⟩ = some (.slice none 0 0) ∧ w.cell? ⟨b, 8, none⟩ = some (.slice none 0 0) ∧ w.cell? ⟨b, 9, none⟩ = some (.slice none 0 0) ∧ w.cell? ⟨b, 10, none⟩ = some (.slice none 0 0) ∧ w.frozen? ⟨b, 0, none⟩ = false ∧ w.frozen? ⟨b, 1, none⟩ = false ∧ w.frozen? ⟨b, 2, none⟩ = false ∧ w.frozen? ⟨b, 3, none⟩ = false ∧ w.frozen? ⟨b, 4, none⟩ = false ∧ w.frozen? ⟨b, 5, none⟩ = false ∧ w.frozen? ⟨b, 6, none⟩ = false ∧ w.frozen? ⟨b, 7, none⟩ = false ∧ w.frozen? ⟨b, 8, none⟩ = false ∧ w.frozen? ⟨b, 9, none⟩ = false ∧ w.frozen? ⟨b, 10, none⟩ = false :=
  ⟨k.row.cell rfl, k.row.cell rfl, k.row.cell rfl, k.row.cell rfl, k.row.cell rfl, k.row.cell rfl, k.row.cell rfl, k.row.cell rfl, k.row.cell rfl, k.row.cell rfl, k.row.cell rfl, k.row.free (by simp [zeroBk]), k.row.free (by simp [zeroBk]), k.row.free (by simp [zeroBk]), k.row.free (by simp [zeroBk]), k.row.free (by simp [zeroBk]), k.row.free (by simp [zeroBk]), k.row.free (by simp [zeroBk]), k.row.free (by simp [zeroBk]), k.row.free (by simp [zeroBk]), k.row.free (by simp [zeroBk]), k.row.free (by simp [zeroBk])⟩
theorem sign_length (b : Bk) (who msg : List UInt8) : (signS b who msg).length = 18 := by
  unfold signS
  split
  · unfold cellS
    split
    · exact Bkl.fit_length _ 18 (by omega)
    · unfold freshS
      split
      · exact Bkl.fit_length _ 18 (by omega)
      · exact Bkl.fit_length _ 18 (by omega)
  · exact Stp.signature_length 2 1 _ _ _ (by omega)
theorem open_three' {H : Type} {enc : TypeId × Value → H} {w : World} {base : Nat} {spare : TypeId → Bool} {held : Bool} {r : Reach} {b0 : Nat} {v : Value} {d : DataW H} {p : List MemPlace} (hv : Value.okWide Tryz.prog w r b0 23 v) (h : DataW.Trod enc Tryz.prog w base spare held 23 v d p) : ∃ a b c : ByteArray, v = .agg #[.string a, .string b, .string c] ∧ d = .agg ([a, b, c].map fun s => .lit (.string s.data.toList)) := by
  obtain ⟨ss, hl, rfl, rfl, -, -⟩ := Open.open_string_array Tryz.underlying23 Tryz.underlying9 (by kernel_rfl) (by kernel_rfl) hv h
  match ss, hl with
  | [a, b, c], _ => exact ⟨a, b, c, rfl, rfl⟩
/-- A call whose answer hangs on the world, as one step of a region that draws. -/
theorem step_call_some {P : Program} {ops : Array Oper} {o : Oper} {a : Act} {w : World} {K : Act → World → Prop} {Q : Exit → Act → World → Prop} {E : Prop} (hgd : o.guard = none) (n : FuncId) (hcall : ∀ (args : Array Value) (w : World), (callFunc n args).run P w = .ok (.enter n args) w) (xs : Array Operand) (ts : Array TypeId)
    (ho : o.op = .call { callee := .value (.func n), args := xs, argTypes := ts }) (vs : Array Value) (hv : xs.map a.eval = vs) (S : Value → World → Prop) (hc : Calls P n vs w fun e w' => ∃ v, e = .returned v ∧ S v w')
    (h : ∀ v w', S v w' → K (a.put o.dst v) w') : if Region.wanted o (yielded ops a.tmps) = true then Oper.wp P o a w K Q else E := by
  have hw : Region.wanted o (yielded ops a.tmps) = true := by simp [Region.wanted, hgd]
  rw [if_pos hw]
  unfold Oper.wp
  have hrun : (execOp a.eval o).run P w = .ok (.enter n vs) w := by
    subst hv
    simp [execOp, ho, resolve, invoke, Act.eval, Deferred.ofValue, hcall]
  rw [hrun, Oper.upon_enter]
  refine hc.mono ?_
  rintro e w' ⟨v, rfl, hs⟩
  exact h v w' hs

set_option maxHeartbeats 6400000 in
theorem walk (con : Con) (ideal : Bool) (l : List K) (n : Nat) (a : Option Addr) (c : Nat) (s t r : ByteArray) (wz : World) (hr : CelR wz a l) (hn : l.length = n) (hnm : n ≤ 9223372036854775807) (hnc : n ≤ c) (z0 : s.size ≤ 140737488351232) (z1 : t.size ≤ 140737488351232) (z2 : r.size ≤ 140737488351232) (hl : Laid wz) :
    Calls Tryz.prog 3 #[.bool ideal, .slice a n c, .agg #[.string s, .string t, .string r]] wz fun e w' => e = .returned (.bool true) ∧ Below wz.heap.size wz w' := by
  have RA := Lib.hid (fun u (hu : Below wz.heap.size wz u) => awake_any con u (hl.below hu))
  have HM := Lib.hid (Hold.Hld.start wz)
  by_cases hg : 40 < n
  · have d1 : decide (40 < (n : Int)) = true := decide_eq_true (by omega)
    have d2 : decide (40 < n) = true := decide_eq_true hg
    clear hr hn hg
    go_enter Tryz.func3, Tryz.ntmps3
    go_upto_region 1 with ((with_reducible refine Hold.box HM.out rfl rfl rfl ?_; clear HM; intro bm w HM; simp only [List.nil_append] at HM; replace HM := Lib.hid HM))
    have f0 : w.cell? ⟨bm, 0, none⟩ = some (.string s) := (HM.out.at 0 rfl).row.cell rfl
    have f1 : w.cell? ⟨bm, 1, none⟩ = some (.string t) := (HM.out.at 0 rfl).row.cell rfl
    have f2 : w.cell? ⟨bm, 2, none⟩ = some (.string r) := (HM.out.at 0 rfl).row.cell rfl
    go_wp2_with ((with_reducible (refine (RA.out _ HM.out.below).mono ?_; rintro e w1 ⟨rfl, hb1⟩; replace HM := Lib.hid (HM.out.next hb1); clear hb1)))
    go_ret
    exact ⟨rfl, HM.out.below⟩
  have d1 : decide (40 < (n : Int)) = false := decide_eq_false (by omega)
  have d2 : decide (40 < n) = false := decide_eq_false hg
  by_cases hg2 : 300 < s.size + t.size + r.size
  · have d3 : decide (300 < (s.size : Int) + (t.size : Int) + (r.size : Int)) = true := decide_eq_true (by omega)
    have d4 : decide (300 < s.size + t.size + r.size) = true := decide_eq_true hg2
    have d5 : (300 : Int) < (s.size : Int) + (t.size : Int) + (r.size : Int) := by omega
    have n1 : ¬ 9223372036854775807 < s.size + t.size := by omega
    have n2 : ¬ 9223372036854775807 < s.size + t.size + r.size := by omega
    clear hr hn hg
    go_enter Tryz.func3, Tryz.ntmps3
    go_upto_region 1 with ((with_reducible refine Hold.box HM.out rfl rfl rfl ?_; clear HM; intro bm w HM; simp only [List.nil_append] at HM; replace HM := Lib.hid HM))
    have f0 : w.cell? ⟨bm, 0, none⟩ = some (.string s) := (HM.out.at 0 rfl).row.cell rfl
    have f1 : w.cell? ⟨bm, 1, none⟩ = some (.string t) := (HM.out.at 0 rfl).row.cell rfl
    have f2 : w.cell? ⟨bm, 2, none⟩ = some (.string r) := (HM.out.at 0 rfl).row.cell rfl
    go_wp2_with ((with_reducible (refine (RA.out _ HM.out.below).mono ?_; rintro e w1 ⟨rfl, hb1⟩; replace HM := Lib.hid (HM.out.next hb1); clear hb1)))
    go_ret
    exact ⟨rfl, HM.out.below⟩
  have d3 : decide (300 < (s.size : Int) + (t.size : Int) + (r.size : Int)) = false := decide_eq_false (by omega)
  have d4 : decide (300 < s.size + t.size + r.size) = false := decide_eq_false hg2
  have d5 : ¬ ((300 : Int) < (s.size : Int) + (t.size : Int) + (r.size : Int)) := by omega
  have n1 : ¬ 9223372036854775807 < s.size + t.size := by omega
  have n2 : ¬ 9223372036854775807 < s.size + t.size + r.size := by omega
  obtain ⟨b0, hb0⟩ : ∃ b0, b0 = newB ideal s.data.toList (toC l) := ⟨_, rfl⟩
  have hg0 : Going b0 whoT 0 := by rw [hb0]; exact going_new _ _ _ _
  have r0 : Room b0 300 := by rw [hb0]; exact Room.new _ _ _ 300 (by rw [Array.length_toList]; show s.size ≤ 1000; omega) (by rw [toC_length]; omega)
  have R0 := Lib.hid (fun u (hu : Below wz.heap.size wz u) => con.new ideal s l n a c b0 u hb0 (hr.below hu) hn (by omega) hnc (hl.below hu))
  have RS := Lib.hid (fun u => shape_any u)
  have HG0 := Lib.hid hg0
  have HR0 := Lib.hid r0
  clear hr hn hg hb0 hg0 r0 hnm
  go_enter Tryz.func3, Tryz.ntmps3
  go_upto_region 1 with ((with_reducible refine Hold.box HM.out rfl rfl rfl ?_; clear HM; intro bm w HM; simp only [List.nil_append] at HM; replace HM := Lib.hid HM))
  have f0 : w.cell? ⟨bm, 0, none⟩ = some (.string s) := (HM.out.at 0 rfl).row.cell rfl
  have f1 : w.cell? ⟨bm, 1, none⟩ = some (.string t) := (HM.out.at 0 rfl).row.cell rfl
  have f2 : w.cell? ⟨bm, 2, none⟩ = some (.string r) := (HM.out.at 0 rfl).row.cell rfl
  go_upto_region 3 with fail
  clear f0 f1 f2
  have f0 : w.cell? ⟨bm, 0, none⟩ = some (.string s) := (HM.out.at 0 rfl).row.cell rfl
  go_cut [7, 8] (fun v7 v8 wc => v8 = .int .i64 0 ∧ ∃ nb v, v7 = .pointer (some ⟨nb, 0, none⟩) ∧ Hold.Hld wz [⟨bm, 23, [.string s, .string t, .string r]⟩, ⟨nb, 30, v⟩] wc ∧ BkR wc b0 v (Off [⟨bm, 23, [.string s, .string t, .string r]⟩, ⟨nb, 30, v⟩]))
  case first =>
    have gl : bm < w.heap.size := (HM.out.at 0 rfl).lt
    go_region_law ((first
      | (refine step_call rfl 8 Tryz.call8 #[] #[] rfl #[] (by first | (simp [Act.eval]; done) | simp [Act.eval, Act.put]) _ _ (RS.out _) ?_; intro w5 hb5; (first | have HM5 := Lib.hid ((HM.out.drew.add 30 zeroBk).next hb5) | have HM5 := Lib.hid (HM.out.drew.next hb5)); have g5 : w5.cell? ⟨bm, 0, none⟩ = some (.string s) := (HM5.out.at 0 rfl).row.cell rfl; have gl5 : bm < w5.heap.size := (HM5.out.at 0 rfl).lt)
      | (refine step_call_some rfl 7 Tryz.call7 #[.tmp 38, .tmp 40, .tmp 41, .tmp 42] #[4, 9, 26, 22] rfl #[.bool ideal, .string s, .agg #[.int .i64 2, .int .i64 1], .slice a n c] (by first | (simp [Act.eval]; done) | simp [Act.eval, Act.put]) (fun u w' => ∃ v, u = .tuple #[.agg v.toArray, .int .i64 0] ∧ BkR w' b0 v (fun k => w5.heap.size ≤ k) ∧ Below w5.heap.size w5 w') ((R0.out w5 HM5.out.below).mono (fun e w' hh => by obtain ⟨v, e1, e2, e3⟩ := hh; exact ⟨_, e1, v, rfl, e2, e3⟩)) ?_; rintro u w6 ⟨v0, rfl, hv, hb6⟩; obtain ⟨xa4, xn4, xc4, xa5, xn5, xc5, xa6, xn6, xc6, xa7, xn7, xc7, xa8, xn8, xc8, xa9, xn9, xc9, xa10, xn10, xc10, rfl⟩ := lit hv; (first | (have HM6 := Lib.hid (HM5.out.next hb6); have HV6 := Lib.hid ((hv.mono fun k _ hk => Or.inr hk).answered HM5.out)) | (have HM6 := Lib.hid ((HM5.out.add 30 zeroBk).next hb6); have HV6 := Lib.hid ((hv.mono fun k _ hk => Or.inr hk).answered (HM5.out.add 30 zeroBk)))); (first | have hz6 := eleven_in (b := w5.heap.size) (HM6.out.at 1 rfl) | have hz6 := eleven_in (b := w.heap.size) (HM6.out.at 1 rfl) | skip))
      | (refine step_call_some rfl 7 Tryz.call7 #[.tmp 38, .tmp 40, .tmp 41, .tmp 42] #[4, 9, 26, 22] rfl #[.bool ideal, .string s, .agg #[.int .i64 2, .int .i64 1], .slice a n c] (by first | (simp [Act.eval]; done) | simp [Act.eval, Act.put]) (fun u w' => ∃ v, u = .tuple #[.agg v.toArray, .int .i64 0] ∧ BkR w' b0 v (fun k => (w5.alloc (.cells zeroBk.toArray 30)).heap.size ≤ k) ∧ Below (w5.alloc (.cells zeroBk.toArray 30)).heap.size (w5.alloc (.cells zeroBk.toArray 30)) w') ((R0.out (w5.alloc (.cells zeroBk.toArray 30)) (HM5.out.add 30 zeroBk).below).mono (fun e w' hh => by obtain ⟨v, e1, e2, e3⟩ := hh; exact ⟨_, e1, v, rfl, e2, e3⟩)) ?_; rintro u w6 ⟨v0, rfl, hv, hb6⟩; obtain ⟨xa4, xn4, xc4, xa5, xn5, xc5, xa6, xn6, xc6, xa7, xn7, xc7, xa8, xn8, xc8, xa9, xn9, xc9, xa10, xn10, xc10, rfl⟩ := lit hv; (first | (have HM6 := Lib.hid (HM5.out.next hb6); have HV6 := Lib.hid ((hv.mono fun k _ hk => Or.inr hk).answered HM5.out)) | (have HM6 := Lib.hid ((HM5.out.add 30 zeroBk).next hb6); have HV6 := Lib.hid ((hv.mono fun k _ hk => Or.inr hk).answered (HM5.out.add 30 zeroBk)))); (first | have hz6 := eleven_in (b := w5.heap.size) (HM6.out.at 1 rfl) | have hz6 := eleven_in (b := w.heap.size) (HM6.out.at 1 rfl) | skip))))
    all_goals go_wp2_with fail
    all_goals go_meet
    all_goals first
      | exact ⟨rfl, w6.heap.size, [.bool b0.ideal, .string (tx b0.seed), .int .i64 2, .int .i64 1, .slice xa4 xn4 xc4, .slice xa5 xn5 xc5, .slice xa6 xn6 xc6, .slice xa7 xn7 xc7, .slice xa8 xn8 xc8, .slice xa9 xn9 xc9, .slice xa10 xn10 xc10], rfl, HM6.out.add 30 _, HV6.out.alloc (Nat.le_refl _) ((Below.refl _ _).alloc (Nat.le_refl _) _)⟩
      | exact ⟨rfl, w5.heap.size, [.bool b0.ideal, .string (tx b0.seed), .int .i64 2, .int .i64 1, .slice xa4 xn4 xc4, .slice xa5 xn5 xc5, .slice xa6 xn6 xc6, .slice xa7 xn7 xc7, .slice xa8 xn8 xc8, .slice xa9 xn9 xc9, .slice xa10 xn10 xc10], rfl, HM6.out.set 1 rfl 0 [.bool b0.ideal, .string (tx b0.seed), .int .i64 2, .int .i64 1, .slice xa4 xn4 xc4, .slice xa5 xn5 xc5, .slice xa6 xn6 xc6, .slice xa7 xn7 xc7, .slice xa8 xn8 xc8, .slice xa9 xn9 xc9, .slice xa10 xn10 xc10], HV6.out.stored (i := 1) rfl (Hold.but_sets [.bool b0.ideal, .string (tx b0.seed), .int .i64 2, .int .i64 1, .slice xa4 xn4 xc4, .slice xa5 xn5 xc5, .slice xa6 xn6 xc6, .slice xa7 xn7 xc7, .slice xa8 xn8 xc8, .slice xa9 xn9 xc9, .slice xa10 xn10 xc10] w6 _ 0)⟩
      | exact ⟨rfl, w.heap.size, [.bool b0.ideal, .string (tx b0.seed), .int .i64 2, .int .i64 1, .slice xa4 xn4 xc4, .slice xa5 xn5 xc5, .slice xa6 xn6 xc6, .slice xa7 xn7 xc7, .slice xa8 xn8 xc8, .slice xa9 xn9 xc9, .slice xa10 xn10 xc10], rfl, HM6.out.set 1 rfl 0 [.bool b0.ideal, .string (tx b0.seed), .int .i64 2, .int .i64 1, .slice xa4 xn4 xc4, .slice xa5 xn5 xc5, .slice xa6 xn6 xc6, .slice xa7 xn7 xc7, .slice xa8 xn8 xc8, .slice xa9 xn9 xc9, .slice xa10 xn10 xc10], HV6.out.stored (i := 1) rfl (Hold.but_sets [.bool b0.ideal, .string (tx b0.seed), .int .i64 2, .int .i64 1, .slice xa4 xn4 xc4, .slice xa5 xn5 xc5, .slice xa6 xn6 xc6, .slice xa7 xn7 xc7, .slice xa8 xn8 xc8, .slice xa9 xn9 xc9, .slice xa10 xn10 xc10] w6 _ 0)⟩
  case rest =>
    obtain ⟨rfl, nb, v, rfl, hm, hv⟩ := hcut
    have HMZ := Lib.hid hm
    have HV := Lib.hid hv
    clear hm hv HM R0 RS
    go_wp2_with fail
    go_loopw [6, 48] (fun z i wr => z = .bool false ∧ ∃ k : Nat, k ≤ 2 ∧ i = .int .i64 (k : Int) ∧ ∃ b v, Going b whoT k ∧ Room b (300 + 2 * k) ∧ Hold.Hld wz [⟨bm, 23, [.string s, .string t, .string r]⟩, ⟨nb, 30, v⟩] wr ∧ BkR wr b v (Off [⟨bm, 23, [.string s, .string t, .string r]⟩, ⟨nb, 30, v⟩])) (fun _ i _ => 2 - (intOf i).toNat)
    case atStart => exact ⟨rfl, 0, by omega, rfl, b0, v, HG0.out, HR0.out, HMZ.out, HV.out⟩
    case round =>
      clear HMZ HV HG0 HR0
      obtain ⟨rfl, k, hk, rfl, b, v', hgo, hro, hm, hv⟩ := hrel
      clear v
      have HM := Lib.hid hm
      have HV := Lib.hid hv
      have L0 := Lib.hid hv.len
      clear hm hv
      by_cases hlt : k < 2
      · obtain ⟨m, hmk, hms⟩ : ∃ m : ByteArray, [Value.string s, Value.string t, Value.string r][1 + k]? = some (.string m) ∧ m.size ≤ 300 := by
          match k, hlt with
          | 0, _ => exact ⟨t, rfl, by omega⟩
          | 1, _ => exact ⟨r, rfl, by omega⟩
        have hlt2 : (k : Int) < 2 := by omega
        obtain ⟨sg, hsg⟩ : ∃ sg, sg = signS b whoT m.data.toList := ⟨_, rfl⟩
        obtain ⟨b1, hb1⟩ : ∃ b1, b1 = signB b whoT m.data.toList := ⟨_, rfl⟩
        obtain ⟨b2, hb2⟩ : ∃ b2, b2 = checkB b1 whoT m.data.toList sg := ⟨_, rfl⟩
        have hso : signO b whoT m.data.toList = (sg, b1, 0) := by rw [signO, if_neg (by rw [hgo.count]; omega), hsg, hb1]
        have hsl : sg.length = 18 := by rw [hsg]; exact sign_length b _ _
        obtain ⟨hck, hgo2, tk, htk⟩ := sign_taken b whoT m.data.toList k hlt hgo
        rw [← hsg, ← hb1] at hck hgo2 htk
        rw [← hb2] at hgo2 htk
        have hro1 : Room b1 (300 + 2 * k + 1) := by rw [hb1]; exact hro.sign _ _
        have hro2 : Room b2 (300 + 2 * k + 2) := by rw [hb2]; exact hro1.check _ _ _
        have hc1 : Bkl.count b1.counts whoT ≤ 2 := by
          rw [hb1]
          show Bkl.count (counted b.counts whoT) whoT ≤ 2
          rw [count_same, hgo.count]
          omega
        have hk1 : Key b1 whoT := by rw [hb1]; exact key_sign hgo.key _ _
        have f1 : wr.cell? ⟨bm, 1 + k, none⟩ = some (.string m) := (HM.out.at 0 rfl).row.cell hmk
        have R1 := Lib.hid (fun A v u (h : BkR u b v A) (hu : Below wz.heap.size wz u) => con.sign A b b1 v ⟨#[109, 32, 49]⟩ m (tx sg) 0 u (congrArg (fun x => tx x.1) hso).symm (congrArg (fun x => x.2.1) hso).symm (congrArg (fun x => x.2.2) hso).symm h (hro.more (by omega)) (by decide) (by omega) (hl.below hu))
        have R2 := Lib.hid (fun A v u (h : BkR u b1 v A) (hu : Below wz.heap.size wz u) => con.check A b1 b2 v ⟨#[109, 32, 49]⟩ m (tx sg) true u hck.symm hb2 h (hro1.more (by omega)) (by decide) (by omega) (by show sg.length ≤ 6000; omega) hc1 hk1 (hl.below hu))
        have R3 := Lib.hid (fun A v u (h : BkR u b2 v A) => con.count A b2 v ⟨#[109, 32, 49]⟩ ((k + 1 : Nat) : Int) u (congrArg (fun n : Nat => (n : Int)) hgo2.count).symm h (hro2.more (by omega)))
        have HX := Lib.hid (And.intro hgo2 (And.intro hro2 (And.intro htk hsl)))
        clear hmk hms hsg hb1 hb2 hso hsl hck hgo2 htk hro1 hro2 hc1 hk1 hgo hro
        go_upto_region 8 with ((first
          | (with_reducible refine Hold.load HM.out 1 (cs := v') rfl rfl rfl rfl (Hold.Part.all _) (bkRowOf L0.out) ?_)
          | ((with_reducible refine (R1.out _ _ _ HV.out HM.out.below).mono ?_); rintro e w ⟨v1, rfl, hv, hb⟩; have L1 := Lib.hid hv.len; replace HV := Lib.hid (hv.answered HM.out); replace HM := Lib.hid (HM.out.next hb); clear hv hb)
          | ((with_reducible refine Hold.allocK HM.out rfl rfl zeroBk zero_bk ?_); clear HM; intro bs w hn hb HM; simp only [List.nil_append, List.cons_append] at HM; replace HM := Lib.hid HM; replace HV := Lib.hid (HV.out.alloc (t := 30) (z := zeroBk) hn hb); clear hn hb)
          | ((with_reducible refine Hold.storeK HM.out 2 (v' := v1) rfl rfl rfl rfl rfl (bkFits HV.out.len zero_len) (bkLaid HV.out.len zero_len) HV.out.one (bkRowOf HV.out.len) ?_); clear HM; intro w hbt HM; simp only [List.set_cons_zero, List.set_cons_succ] at HM; replace HM := Lib.hid HM; replace HV := Lib.hid (HV.out.stored (i := 2) (z' := v1) rfl hbt); clear hbt)))
        go_upto_region 9 with ((first
          | (with_reducible refine Hold.load HM.out 2 (cs := v1) rfl rfl rfl rfl (Hold.Part.all _) (bkRowOf L1.out) ?_)
          | ((with_reducible refine (R2.out _ _ _ HV.out HM.out.below).mono ?_); rintro e w ⟨v2, rfl, hv, hb⟩; have L2 := Lib.hid hv.len; replace HV := Lib.hid (hv.answered HM.out); replace HM := Lib.hid (HM.out.next hb); clear hv hb)
          | ((with_reducible refine Hold.allocK HM.out rfl rfl zeroBk zero_bk ?_); clear HM; intro bt w hn hb HM; simp only [List.nil_append, List.cons_append] at HM; replace HM := Lib.hid HM; replace HV := Lib.hid (HV.out.alloc (t := 30) (z := zeroBk) hn hb); clear hn hb)
          | ((with_reducible refine Hold.storeK HM.out 3 (v' := v2) rfl rfl rfl rfl rfl (bkFits HV.out.len zero_len) (bkLaid HV.out.len zero_len) HV.out.one (bkRowOf HV.out.len) ?_); clear HM; intro w hbt HM; simp only [List.set_cons_zero, List.set_cons_succ] at HM; replace HM := Lib.hid HM; replace HV := Lib.hid (HV.out.stored (i := 3) (z' := v2) rfl hbt); clear hbt)))
        obtain ⟨M, hM⟩ : ∃ M, tk.length = M := ⟨_, rfl⟩
        have HF : Hid (∀ u, Hold.Hld wz [⟨bm, 23, [.string s, .string t, .string r]⟩, ⟨nb, 30, v'⟩, ⟨bs, 30, v1⟩, ⟨bt, 30, v2⟩] u → BkR u b2 v2 (Off [⟨bm, 23, [.string s, .string t, .string r]⟩, ⟨nb, 30, v'⟩, ⟨bs, 30, v1⟩, ⟨bt, 30, v2⟩]) → ∃ q o cn, u.cell? ⟨bt, 8, none⟩ = some (.slice (some ⟨q, o, none⟩) (M + 1) cn) ∧ u.cell? ⟨q, o + M * 3 + 2, none⟩ = some (.string (tx sg))) := Lib.hid fun u hm hv => by
          obtain ⟨aa, nn, cc, e8, hn, -, hR, -⟩ := hv.at8
          have hx := HX.out.2.2.1
          rw [hx] at hn hR
          have hn2 : nn = M + 1 := by rw [← hn, List.length_append, hM]; rfl
          subst hn2
          obtain ⟨q, o, rfl, hq, hcell⟩ := hR (by simp)
          exact ⟨q, o, cc, (hm.at 3 rfl).row.cell e8, hcell M (whoT, m.data.toList, sg) (by rw [← hM]; simp) 2 _ rfl⟩
        obtain ⟨q, o, cn, c8, c9⟩ := HF.out _ HM.out HV.out
        have htl : M + 1 ≤ 400 := by
          have h1 := HX.out.2.1.taken
          rw [HX.out.2.2.1, List.length_append] at h1
          have h2 : [(whoT, m.data.toList, sg)].length = 1 := rfl
          omega
        have i1 : ((M : Int) + 1 == 0) = false := by simp; omega
        have i2 : ¬ ((M : Int) + 1 = 0) := by omega
        have i3 : (((M + 1 : Nat) : Int) == 0) = false := by simp; omega
        have i4 : (!((((k + 1 : Nat) : Int)) == (k : Int) + 1)) = false := by simp
        go_upto_region 11 with ((first
          | (refine Hold.wpList_want (by rfl) (.agg (v2).toArray) (Hold.load_run HM.out 3 rfl rfl rfl (Hold.Part.all _) (bkRowOf L2.out)) ?_)
          | ((with_reducible refine (R3.out _ _ _ HV.out).mono ?_); rintro e w ⟨rfl, hb⟩; replace HM := Lib.hid (HM.out.next hb); replace HV := Lib.hid (HV.out.below hb); clear c8 c9; obtain ⟨q, o, cn, c8, c9⟩ := HF.out _ HM.out HV.out; clear hb)))
        clear c8 c9 f1
        go_wp2_with ((first
          | (with_reducible refine Hold.load HM.out 3 (cs := v2) rfl rfl rfl rfl (Hold.Part.all _) (bkRowOf L2.out) ?_)
          | ((with_reducible refine Hold.storeK HM.out 1 (v' := v2) rfl rfl rfl rfl rfl (bkFits HV.out.len L0.out) (bkLaid HV.out.len L0.out) HV.out.one (bkRowOf HV.out.len) ?_); clear HM; intro w hbt HM; simp only [List.set_cons_zero, List.set_cons_succ] at HM; replace HM := Lib.hid HM; replace HV := Lib.hid (HV.out.stored (i := 1) (z' := v2) rfl hbt); clear hbt)))
        go_roundw
        case rel => exact ⟨rfl, k + 1, by omega, by go_num, b2, v2, HX.out.1, by have := HX.out.2.1; rw [Nat.mul_succ]; exact this, Hold.Hld.front (m' := [_, _]) HM.out, HV.out.mono fun j _ hj x hx => hj x (by simp at hx ⊢; rcases hx with h | h <;> simp [h])⟩
        case measure => simp [intOf]; omega
      · obtain rfl : k = 2 := by omega
        have hlt2 : ¬ (((2 : Nat) : Int) < 2) := by omega
        have hso : signO b whoT [109, 111, 114, 101] = ([], b, 6) := by rw [signO, if_pos (by rw [hgo.count]; omega)]
        have R1 := Lib.hid (fun A v u (h : BkR u b v A) (hu : Below wz.heap.size wz u) => con.sign A b b v ⟨#[109, 32, 49]⟩ ⟨#[109, 111, 114, 101]⟩ (tx []) 6 u (congrArg (fun x => tx x.1) hso).symm (congrArg (fun x => x.2.1) hso).symm (congrArg (fun x => x.2.2) hso).symm h (hro.more (by omega)) (by decide) (by decide) (hl.below hu))
        clear hso hgo hro
        go_upto_region 14 with ((first
          | (with_reducible refine Hold.load HM.out 1 (cs := v') rfl rfl rfl rfl (Hold.Part.all _) (bkRowOf L0.out) ?_)
          | ((with_reducible refine (R1.out _ _ _ HV.out HM.out.below).mono ?_); rintro e w ⟨v1, rfl, hv, hb⟩; have L1 := Lib.hid hv.len; replace HV := Lib.hid (hv.answered HM.out); replace HM := Lib.hid (HM.out.next hb); clear hv hb)
          | ((with_reducible refine Hold.allocK HM.out rfl rfl zeroBk zero_bk ?_); clear HM; intro bs w hn hb HM; simp only [List.nil_append, List.cons_append] at HM; replace HM := Lib.hid HM; replace HV := Lib.hid (HV.out.alloc (t := 30) (z := zeroBk) hn hb); clear hn hb)
          | ((with_reducible refine Hold.storeK HM.out 2 (v' := v1) rfl rfl rfl rfl rfl (bkFits HV.out.len zero_len) (bkLaid HV.out.len zero_len) HV.out.one (bkRowOf HV.out.len) ?_); clear HM; intro w hbt HM; simp only [List.set_cons_zero, List.set_cons_succ] at HM; replace HM := Lib.hid HM; replace HV := Lib.hid (HV.out.stored (i := 2) (z' := v1) rfl hbt); clear hbt)))
        go_wp2_with ((with_reducible (refine (RA.out _ HM.out.below).mono ?_; rintro e w ⟨rfl, hb⟩; replace HM := Lib.hid (HM.out.next hb); clear hb)))
        go_ret
        exact ⟨by simp, HM.out.below⟩

set_option maxHeartbeats 1600000 in
theorem lifted (con : Con) (os : Os) (started : os.Started) (H : Type) (enc : TypeId × Value → H) :
    ReturnsInHanded {} Tryz.checked os 3 .any (fun w args => (Rows.bookSignsSpec.pre enc Tryz.prog Tryz.f3 [] false w args ∧ laidMetH Tryz.prog Bkk.laidL w) ∧ sizedMet enc Tryz.prog Tryz.f3 (OpenSpec.ofChange Rows.bookSignsSpec) false w args)
      (Rows.bookSignsSpec.post enc Tryz.prog Tryz.f3 false true false false) := by
  refine returnsInHanded_of_change_and (C := Tryz.checked) (X := fun w _ => laidMetH Tryz.prog Bkk.laidL w) (fun _ _ _ hh h => h.of_heap hh) Bkk.own started (by kernel_rfl) Tryz.func3
    (ChangeSpec.witness_shaped (enc := enc) (C := Tryz.checked) (os := os) (X := fun w _ => laidMetH Tryz.prog Bkk.laidL w) false (World.doorLaid Tryz.prog 400 os) #[.bool false, .slice none 0 0, .agg #[.string ByteArray.empty, .string ByteArray.empty, .string ByteArray.empty]] 8 rfl (World.shaped_of_RefB (by kernel_rfl) (by kernel_rfl)) (by kernel_rfl) (by kernel_rfl) (by kernel_rfl) (Bkk.door_met os _)) ?_
  intro W base args ds gs before hval0 hW _ hsz0 hL _
  have hval : ∀ (j : Nat) t v, Tryz.f3.params[j]? = some t → args[j]? = some v → Value.okWide Tryz.prog W .any base t v := hval0
  have hsz : (DataW.weightsEach Tryz.prog (Tryz.f3.params.toList ++ Rows.bookSignsSpec.plain.varTypes Tryz.prog) (ds ++ gs)).all (· ≤ reachBytes) = true := hsz0
  clear hsz0
  have hW' := hW
  obtain ⟨p, q, hA0, hV, rfl, hfz, hnd⟩ := hW
  have hA : DataW.TrodAll enc Tryz.prog W 0 (fun _ => true) true Tryz.f3.params.toList args.toList ds p := hA0
  rw [Tryz.params3] at hA hval hsz
  obtain ⟨v0, vs0, d0, ds0, p0, q0, hargs, rfl, rfl, h0, r0⟩ := trodAll_cons hA
  obtain ⟨v1, vs1, d1, ds1, p1, q1, rfl, rfl, rfl, h1, r1⟩ := trodAll_cons r0
  obtain ⟨v2, vs2, d2, ds2, p2, q2, rfl, rfl, rfl, h2, r2⟩ := trodAll_cons r1
  obtain ⟨rfl, rfl, rfl⟩ := trodAll_nil r2
  obtain rfl : args = #[v0, v1, v2] := by cases args; simp_all
  obtain ⟨rfl, rfl⟩ := trodVars_none hV
  obtain ⟨a0, rfl, rfl, rfl⟩ := Go.RowKit.open_bool Tryz.underlying4 (hval 0 4 v0 rfl rfl) h0
  have k1 := h1
  have lt1 : ∀ x ∈ p1, x.block < W.heap.size := by obtain ⟨m, hm⟩ := k1; exact DataW.trod_lt m _ _ _ hm
  obtain ⟨l1, n1, a1, c1, rfl, x1, y1, z1, v1, u1⟩ := TpO.open_cells (hval 1 22 v1 rfl rfl) h1
  have k2 := h2
  have lt2 : ∀ x ∈ p2, x.block < W.heap.size := by obtain ⟨m, hm⟩ := k2; exact DataW.trod_lt m _ _ _ hm
  obtain ⟨s2, t2, r2, rfl, rfl⟩ := open_three' (hval 2 23 v2 rfl rfl) h2
  have zz2 := Open.sized_string_array hsz (j := 2) (t := 23) (ss := [s2, t2, r2]) rfl rfl Tryz.underlying23
  have hcl := Bkk.of_laid hL
  clear hA0 hval0
  refine (walk con a0 l1 n1 a1 c1 s2 t2 r2 W x1 y1 z1 v1 (zz2 s2 (by simp)) (zz2 t2 (by simp)) (zz2 r2 (by simp)) hcl).mono fun e W' ⟨he, bel⟩ => ?_
  subst he
  exact ⟨_, rfl, _, _, _, [], _, [], hW', trodAll_mk1 (shut_bool Tryz.underlying4 _), (trodAll_cons_mk (shut_bool Tryz.underlying4 _) (trodAll_cons_mk (Below.trod Bkk.laidOut (by kernel_rfl) (of_decide_eq_true (by kernel_rfl)) k1 bel lt1) (trodAll_cons_mk (Below.trod Bkk.laidOut (by kernel_rfl) (of_decide_eq_true (by kernel_rfl)) k2 bel lt2) trodAll_mk0))), rfl, bel.frame _, fun h => by cases h⟩

theorem over (con : Con) : Rows.BookSignsSaid :=
  OpenClaim.holds_of_wide 3 Tryz.f3 rfl rfl rfl rfl rfl rfl rfl ⟨rfl, rfl, rfl, rfl, rfl⟩ rfl rfl rfl rfl rfl (by kernel_rfl) Tryz.func3 (by kernel_rfl)
    (of_decide_eq_true (by kernel_rfl)) (by unfold Func.isWrapper; first | (rw [if_pos (by decide +kernel)]; kernel_rfl) | (rw [if_neg (by decide +kernel)]; exact ⟨rfl, rfl⟩))
    (fun os started H enc _ => lifted con os started H enc)

theorem of_con (con : Con) : Rows.BookSignsCardSaid :=
  Claim7.holds_tied_plain_at .later [] [.data, .data, .data, .data] true Rows.bookSignsCard.stood.harness false
    (over con) (fun _ h => by cases h) (by kernel_rfl) (fun _ h => by cases h) bookSigns_row_tie rfl ⟨rfl, rfl⟩ (by kernel_rfl) rfl
    (fun f fn hf hfn => by
      obtain rfl : f = 3 := Option.some.inj ((show Tryz.prog.funcNamed "murmur/murmurlaw16.BookSigns" = some 3 by kernel_rfl).symm.trans hf) |>.symm
      obtain rfl : fn = Tryz.f3 := (Option.some.inj (Tryz.func3.symm.trans hfn)).symm
      exact ⟨by kernel_rfl, fun j t ht => by
        rw [Tryz.params3] at ht
        have hm : t ∈ [4, 22, 23] := by simpa using Array.mem_of_getElem? ht
        have hall : ([4, 22, 23].all fun u => !Tryz.prog.wantsStandIn u) = true := by kernel_rfl
        exact (show Tryz.prog.wantsStandIn t = false by simpa using List.all_eq_true.1 hall t hm)⟩)
    (by kernel_rfl)
/-- The statement. -/
theorem proved : Rows.BookSignsCardSaid := of_con Bkb.con
#print axioms proved
end Go.Proofs.YtdhipdoaefdfeaaGreatDoor.LawBSg
