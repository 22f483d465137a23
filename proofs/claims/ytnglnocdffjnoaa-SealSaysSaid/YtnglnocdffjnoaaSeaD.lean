/-
  Read of package seal answers what the plain mathematics of the text Sea says, and leaves all memory that was there as it was. Conditions: the text has no more than 10^9 bytes.
-/
import Derived.Test.YtnglnocdffjnoaaSeaM
import Derived.Test.YtnglnocdffjnoaaSteadyN
namespace Go.Proofs.Ytnglnocdffjnoaa.Sea
open Go.RowKit Mur Prt Lanes
set_option maxRecDepth 100000

theorem zeroC_one : Hold.Single zeroC := by simp [Hold.Single, zeroC, zero, SV.cells, Value.oneCell']
def twoE : List Value := [.string ⟨#[]⟩, .string ⟨#[]⟩]
theorem twoE_len : twoE.length = 2 := rfl
theorem twoE_one : Hold.Single twoE := by simp [Hold.Single, twoE, Value.oneCell']
theorem zero_two : (Try.prog.info? 41).map (fun i => (i.zero, i.size)) = some (some (.agg twoE.toArray), twoE.length) := by kernel_rfl
theorem twoRow : Hold.TyRow Try.prog 41 2 := ⟨_, Try.underlying41, rfl, by kernel_rfl⟩
theorem cell_str (s : ByteArray) : (Value.string s).cells = #[Value.string s] ∧ (Value.string s).oneCell' = true := ⟨rfl, rfl⟩

section
variable {P : Program} {w : World}
theorem load_cell {op : Oper} {a : Act} {p : Addr} {ty : TypeId} {c : Value} {x : Operand} (ho : op.op = .load ty x) (hx : a.eval x = .pointer (some p)) (hc : w.cell? p = some c) (hr : Hold.TyCell P ty) : (execOp a.eval op).run P w = .ok (.value c) w := by
  obtain ⟨d, hu, hd, hs⟩ := hr
  have hagg : (isAgg ty).run P w = .ok false w := by
    unfold isAgg
    rw [Sem.run_bind, run_underlying hu w]
    cases d <;> simp_all
  unfold execOp
  simp [ho, hx, Instr.loadAt, Instr.sureAddr, Sem.run_bind, loadVar, hagg, hc]
end
theorem st_sizes (s : List UInt8) (p q : Nat) (T0 T1 : ByteArray) (h : St s p 2 q T0 T1) : T0.size ≤ 6000 ∧ T1.size ≤ 6000 := by
  obtain ⟨r, h1, h2⟩ := h
  exact ⟨(readStr_facts _ _ _ _ h1).2.2.2.1, (readStr_facts _ _ _ _ h2).2.2.2.1⟩
theorem told_no (s g : List UInt8) (ns : List Nat) (b x : List UInt8) (p : Nat) (h : ¬ (p = s.length ∧ ns.length = 4 ∧ right (sea g ns b x) = true)) : told s g ns b x p = .error 3 := by rw [told, if_neg h]
theorem told_yes (s g : List UInt8) (ns : List Nat) (b x : List UInt8) (p : Nat) (h : p = s.length ∧ ns.length = 4 ∧ right (sea g ns b x) = true) : told s g ns b x p = .ok (sea g ns b x) := by rw [told, if_pos h]
theorem tx_data (s : ByteArray) : tx s.data.toList = s := by cases s; rfl

set_option maxHeartbeats 3200000 in
theorem read_any (s : ByteArray) (Y : List Value) (E : Int) (w : World) (hY : Y = (seaV (read s.data.toList)).cells) (hE : E = errV (read s.data.toList)) (hs : s.size ≤ 1000000000) :
    Calls Try.prog 11 #[.string s] w fun e w' => e = .returned (.tuple #[.agg Y.toArray, .int .i64 E]) ∧ Below w.heap.size w w' := by
  have hsl : s.data.toList.length = s.size := rfl
  have RS := Lib.hid (fun (q : Nat) (hq : q ≤ s.size) (V : ByteArray) (B E : Int) (hV : V = strV (readStr s.data.toList (q : Int))) (hB : B = posV (readStr s.data.toList (q : Int))) (hE : E = errV (readStr s.data.toList (q : Int))) (u : World) => readStr_any s (q : Int) u V B E hV hB hE (by omega) (by omega) hs)
  have RS0 := Lib.hid (fun (V : ByteArray) (B E : Int) (hV : V = strV (readStr s.data.toList 0)) (hB : B = posV (readStr s.data.toList 0)) (hE : E = errV (readStr s.data.toList 0)) (u : World) => readStr_any s 0 u V B E hV hB hE (by omega) (by omega) hs)
  have HM := Lib.hid (Hold.Hld.start w)
  cases h1 : readStr s.data.toList 0 with
  | error y =>
    have hre := read_one _ y h1
    rw [hre] at hY hE
    obtain rfl : Y = zeroC := hY
    obtain rfl : E = (y : Int) := hE
    have R1 := Lib.hid (fun u => RS0.out ⟨#[]⟩ 0 (y : Int) (by rw [h1]; rfl) (by rw [h1]; rfl) (by rw [h1]; rfl) u)
    have hy := readStr_err _ _ _ h1
    have hne : ((y : Int) != 0) = true := by simp; omega
    clear h1 hre hy
    go_enter Try.func11, Try.ntmps11
    go_wp2_with ((first
      | (with_reducible refine Hold.alloc HM.out rfl rfl zeroC zero_sea ?_; clear HM; intro b0 w HM; simp only [List.nil_append] at HM; replace HM := Lib.hid HM)
      | (with_reducible refine (R1.out _).mono ?_; rintro e w ⟨rfl, hb⟩; replace HM := Lib.hid (HM.out.next hb); clear hb)
      | (with_reducible refine Hold.build (t := 23) (parts := #[]) (cs := zeroC) rfl rfl ?_ ?_; focus (kernel_rfl))
      | (with_reducible refine Hold.store HM.out 0 (v' := zeroC) rfl rfl rfl rfl rfl (by rw [Nat.zero_add]; exact Nat.le_refl _) (Hold.lay_all rfl) (zeroC_one) (by rw [zeroC_len]; exact seaRow) ?_; clear HM; intro w HM; simp only [List.set_cons_zero] at HM; replace HM := Lib.hid HM)))

    refine bodyPost_ret (Hold.resultsCT HM.out 0 rfl _ rfl rfl rfl (by rw [zeroC_len]; exact seaRow)) rfl ?_
    exact ⟨rfl, HM.out.below⟩
  | ok gp =>
    obtain ⟨g, p0⟩ := gp
    obtain ⟨G, hG⟩ : ∃ G, G = tx g := ⟨_, rfl⟩
    have R1 := Lib.hid (fun u => RS0.out G (p0 : Int) 0 (by rw [h1, hG]; rfl) (by rw [h1]; rfl) (by rw [h1]; rfl) u)
    have hp0 : p0 ≤ s.size := (readStr_facts _ _ _ _ h1).2.2.1
    have hgl := (readStr_facts _ _ _ _ h1).2.2.2.1
    have hne : ((0 : Int) != 0) = false := by simp
    cases h2 : readAll readNum s.data.toList (p0 : Int) with
    | error y =>
      have hre := read_two _ g p0 y h1 h2
      rw [hre] at hY hE
      obtain rfl : Y = zeroC := hY
      obtain rfl : E = (y : Int) := hE
      have R2 := Lib.hid (fun u => readnums_any s (p0 : Int) u [] 0 (y : Int) (by rw [h2]; rfl) (by rw [h2]; rfl) (by rw [h2]; rfl) (by omega) (by omega) hs)
      have hy := readAll_err _ _ _ h2
      have hne2 : ((y : Int) != 0) = true := by simp; omega
      clear h1 h2 hre hy hG hgl
      go_enter Try.func11, Try.ntmps11
      go_wp2_with ((first
        | (with_reducible refine Hold.alloc HM.out rfl rfl zeroC zero_sea ?_; clear HM; intro b0 w HM; simp only [List.nil_append] at HM; replace HM := Lib.hid HM)
        | (with_reducible refine (R1.out _).mono ?_; rintro e w ⟨rfl, hb⟩; replace HM := Lib.hid (HM.out.next hb); clear hb)
        | (with_reducible refine (R2.out _).mono ?_; rintro e w ⟨ao, c, rfl, -, -, hb⟩; replace HM := Lib.hid (HM.out.next hb); clear hb)
        | (with_reducible refine Hold.build (t := 23) (parts := #[]) (cs := zeroC) rfl rfl ?_ ?_; focus (kernel_rfl))
        | (with_reducible refine Hold.store HM.out 0 (v' := zeroC) rfl rfl rfl rfl rfl (by rw [Nat.zero_add]; exact Nat.le_refl _) (Hold.lay_all rfl) (zeroC_one) (by rw [zeroC_len]; exact seaRow) ?_; clear HM; intro w HM; simp only [List.set_cons_zero] at HM; replace HM := Lib.hid HM)))

      refine bodyPost_ret (Hold.resultsCT HM.out 0 rfl _ rfl rfl rfl (by rw [zeroC_len]; exact seaRow)) rfl ?_
      exact ⟨rfl, HM.out.below⟩
    | ok np =>
      obtain ⟨ns, p⟩ := np
      have R2 := Lib.hid (fun u => readnums_any s (p0 : Int) u ns (p : Int) 0 (by rw [h2]; rfl) (by rw [h2]; rfl) (by rw [h2]; rfl) (by omega) (by omega) hs)
      have hfit := read_fits _ _ _ _ h2
      have hp : p ≤ s.size := hfit.2.2
      obtain ⟨M, hM⟩ : ∃ M, M = ns.length := ⟨_, rfl⟩
      rw [← hM] at R2
      have HH := Lib.hid (And.intro h1 h2)
      have HG := Lib.hid (And.intro hG hgl)
      have HMM := Lib.hid (And.intro hM hfit)
      have HY := Lib.hid (And.intro hY hE)
      clear h1 h2 hG hgl hfit hM hY hE
      go_enter Try.func11, Try.ntmps11
      go_wp2_with ((first
        | (with_reducible refine Hold.alloc HM.out rfl rfl zeroC zero_sea ?_; clear HM; intro b0 w HM; simp only [List.nil_append] at HM; replace HM := Lib.hid HM)
        | (with_reducible refine (R1.out _).mono ?_; rintro e w ⟨rfl, hb⟩; replace HM := Lib.hid (HM.out.next hb); clear hb)
        | (with_reducible refine (R2.out _).mono ?_; rintro e w2 ⟨ao, c, rfl, hi, -, hb⟩; replace HM := Lib.hid (HM.out.next hb); clear hb; have HI := Lib.hid hi; clear hi; have HN := Lib.hid (Hold.Hld.start w2))
        | (with_reducible refine Hold.build (t := 41) (parts := #[]) (cs := twoE) rfl rfl ?_ ?_; focus (kernel_rfl))
        | (with_reducible refine Hold.alloc HN.out rfl rfl twoE zero_two ?_; clear HN; intro b1 w HN; simp only [List.nil_append] at HN; replace HN := Lib.hid HN)
        | (with_reducible refine Hold.store HN.out 0 (v' := twoE) rfl rfl rfl rfl rfl (by rw [Nat.zero_add]; exact Nat.le_refl _) (Hold.lay_all rfl) (twoE_one) (by rw [twoE_len]; exact twoRow) ?_; clear HN; intro w HN; simp only [List.set_cons_zero] at HN; replace HN := Lib.hid HN)))

      go_loopw [5, 33] (fun at_ i wr => ∃ (j q : Nat) (T0 T1 : ByteArray), j ≤ 2 ∧ i = .int .i64 j ∧ at_ = .int .i64 q ∧ q ≤ s.size ∧ St s.data.toList p j q T0 T1 ∧ Hold.Hld w2 [⟨b1, 41, [.string T0, .string T1]⟩] wr) (fun _ i _ => 2 - (intOf i).toNat)
      case atStart => exact ⟨0, p, ⟨#[]⟩, ⟨#[]⟩, by omega, rfl, rfl, hp, ⟨rfl, rfl, rfl⟩, HN.out⟩
      case round =>
        clear HN
        obtain ⟨j, q, T0, T1, hj, rfl, rfl, hq, hst, hn⟩ := hrel
        have HN := Lib.hid hn
        have HST := Lib.hid hst
        clear hn hst
        by_cases hlt : j < 2
        · cases hrx : readStr s.data.toList (q : Int) with
          | error y =>
            have hre := st_error _ g ns p0 p j q y T0 T1 hlt HH.out.1 HH.out.2 HST.out hrx
            have hY := HY.out.1
            have hE := HY.out.2
            rw [hre] at hY hE
            obtain rfl : Y = zeroC := hY
            obtain rfl : E = (y : Int) := hE
            have R3 := Lib.hid (fun u => RS.out q hq ⟨#[]⟩ 0 (y : Int) (by rw [hrx]; rfl) (by rw [hrx]; rfl) (by rw [hrx]; rfl) u)
            have hy := readStr_err _ _ _ hrx
            have hne3 : ((y : Int) != 0) = true := by simp; omega
            have hj2 : (j : Int) < 2 := by omega
            have hj3 : (0 : Int) ≤ (j : Int) := by omega
            clear hre hrx hy HY
            go_upto_region 13 with ((first
              | (with_reducible refine (R3.out _).mono ?_; rintro e w ⟨rfl, hb⟩; replace HN := Lib.hid (HN.out.next hb); clear hb)
              | (with_reducible refine Hold.store1 HN.out 0 (c := .string ⟨#[]⟩) (v' := ([.string T0, .string T1] : List Value).set j (.string ⟨#[]⟩)) rfl rfl rfl rfl rfl (by simp; omega) (rfl) (cell_str _) (cellStr) ?_; clear HN; intro w HN; simp only [List.set_cons_zero] at HN; replace HN := Lib.hid HN)))

            have HM2 := Lib.hid (HM.out.next HN.out.below)
            clear HM HN
            go_wp2_with ((first
              | (with_reducible refine Hold.build (t := 23) (parts := #[]) (cs := zeroC) rfl rfl ?_ ?_; focus (kernel_rfl))
              | (with_reducible refine Hold.store HM2.out 0 (v' := zeroC) rfl rfl rfl rfl rfl (by rw [Nat.zero_add]; exact Nat.le_refl _) (Hold.lay_all rfl) (zeroC_one) (by rw [zeroC_len]; exact seaRow) ?_; clear HM2; intro w HM2; simp only [List.set_cons_zero] at HM2; replace HM2 := Lib.hid HM2)))

            refine bodyPost_ret (Hold.resultsCT HM2.out 0 rfl _ rfl rfl rfl (by rw [zeroC_len]; exact seaRow)) rfl ?_
            exact ⟨rfl, HM2.out.below⟩
          | ok xr =>
            obtain ⟨x, q1⟩ := xr
            obtain ⟨U0, U1, hset, hst2⟩ := st_next _ p j q q1 T0 T1 (tx x) hlt HST.out (by rw [tx_list]; exact hrx)
            have hq1 : q1 ≤ s.size := (readStr_facts _ _ _ _ hrx).2.2.1
            obtain ⟨T, hT⟩ : ∃ T, T = tx x := ⟨_, rfl⟩
            have R3 := Lib.hid (fun u => RS.out q hq T (q1 : Int) 0 (by rw [hrx, hT]; rfl) (by rw [hrx]; rfl) (by rw [hrx]; rfl) u)
            rw [← hT] at hset
            have HSET := Lib.hid hset
            have HS2 := Lib.hid hst2
            have hj2 : (j : Int) < 2 := by omega
            have hj3 : (0 : Int) ≤ (j : Int) := by omega
            clear hrx hT hset hst2 HST
            go_wp2_with ((first
              | (with_reducible refine (R3.out _).mono ?_; rintro e w ⟨rfl, hb⟩; replace HN := Lib.hid (HN.out.next hb); clear hb)
              | (with_reducible refine Hold.store1 HN.out 0 (c := .string T) (v' := [.string U0, .string U1]) rfl rfl rfl rfl rfl (by simp; omega) (HSET.out) (cell_str _) (cellStr) ?_; clear HN; intro w HN; simp only [List.set_cons_zero] at HN; replace HN := Lib.hid HN)))

            go_roundw
            case rel => exact ⟨j + 1, q1, U0, U1, by omega, by go_num, rfl, hq1, HS2.out, HN.out⟩
            case measure => simp [intOf]; omega
        · obtain rfl : j = 2 := by omega
          have hrd := st_end _ g ns p0 p q T0 T1 HH.out.1 HH.out.2 HST.out
          have HRD := Lib.hid hrd
          obtain ⟨hz0, hz1⟩ := st_sizes _ _ _ _ _ HST.out
          clear hrd HST HH RS RS0 R1 R2
          by_cases hqs : q = s.size
          · have hd : decide ((q : Int) < (s.size : Int)) = false := decide_eq_false (by omega)
            have hd2 : decide (q < s.size) = false := decide_eq_false (by omega)
            by_cases hM4 : M = 4
            · obtain ⟨n0, n1, n2, n3, rfl⟩ : ∃ n0 n1 n2 n3, ns = [n0, n1, n2, n3] := by
                have hl := HMM.out.1
                match ns, hl with
                | [x, y, z, u], _ => exact ⟨x, y, z, u, rfl⟩
                | [], hl => exact absurd hl (by rw [hM4]; decide)
                | [_], hl => exact absurd hl (by rw [hM4]; simp)
                | [_, _], hl => exact absurd hl (by rw [hM4]; simp)
                | [_, _, _], hl => exact absurd hl (by rw [hM4]; simp)
                | _ :: _ :: _ :: _ :: _ :: _, hl => exact absurd hl (by rw [hM4]; simp)
              subst hM4
              obtain ⟨l, hl⟩ : ∃ l, l = sea g [n0, n1, n2, n3] T0.data.toList T1.data.toList := ⟨_, rfl⟩
              obtain ⟨X, hX, hXc⟩ := named (svOf l)
              have hag : Value.agg X.toArray = .agg #[.string G, .int .i64 (n0 : Int), .int .i64 (n1 : Int), .int .i64 (n2 : Int), .int .i64 (n3 : Int), .string T0, .string T1] := by
                rw [hX.agg, hl, HG.out.1]
                show Value.agg #[.string (tx g), .int .i64 (n0 : Int), .int .i64 (n1 : Int), .int .i64 (n2 : Int), .int .i64 (n3 : Int), .string (tx T0.data.toList), .string (tx T1.data.toList)] = _
                rw [tx_data, tx_data]
              obtain ⟨bl, ol, rfl, hbl, hcell⟩ := HI.out (by simp [zl])
              have k0 := hcell 0 n0 rfl
              have k1 := hcell 1 n1 rfl
              have k2 := hcell 2 n2 rfl
              have k3 := hcell 3 n3 rfl
              rw [Nat.add_zero] at k0
              have HC := Lib.hid (fun (u : World) (hu : Below w2.heap.size w2 u) => And.intro ((hu.cell (p := ⟨bl, ol, none⟩) hbl).trans k0) (And.intro ((hu.cell (p := ⟨bl, ol + 1, none⟩) hbl).trans k1) (And.intro ((hu.cell (p := ⟨bl, ol + 2, none⟩) hbl).trans k2) ((hu.cell (p := ⟨bl, ol + 3, none⟩) hbl).trans k3))))
              obtain ⟨c, hc⟩ : ∃ c, c = right l := ⟨_, rfl⟩
              have hszG : (svOf l).g.size = g.length := by rw [hl]; rfl
              have hszB : (svOf l).b.size = T0.size := by rw [hl]; rfl
              have hszX : (svOf l).x.size = T1.size := by rw [hl]; rfl
              have R4 := Lib.hid (fun u => right_any (svOf l) X c u hX (by rw [svOf_l]; exact hc) (by have := HG.out.2; omega) (by omega) (by omega))
              have HAG := Lib.hid hag
              have HX := Lib.hid hX
              have HXC := Lib.hid hXc
              have HL := Lib.hid hl
              have HCC := Lib.hid hc
              clear hag hX hXc hl hc hszG hszB hszX hbl hcell k0 k1 k2 k3
              go_upto_region 17 with (fail)
              refine SteadyN.region 19 [18] [0, 1, 2, 3, 4, 5, 6, 7, 8, 9, 10, 11, 12, 13, 14, 15, 16, 17] (by kernel_rfl) (by kernel_rfl) (SteadyN.Made _ 23 zeroC) (fun k hk o ho => by
                simp only [List.mem_cons, List.not_mem_nil, or_false] at hk
                subst hk <;> (obtain rfl : _ = o := Option.some.inj ho; exact SteadyN.makes rfl 23 rfl _ zero_sea)) (SteadyN.Made.start _ _ _) ?_
              simp only [List.filterMap_cons, List.filterMap_nil, List.drop_succ_cons, List.drop_zero, List.getElem?_cons_zero, List.getElem?_cons_succ, Option.map_some]
              refine SteadyN.take ?_ rfl (by intro s u hu; go_simp; with_reducible rfl) ?_
              simp only [Act.put, List.setIfInBounds_toArray, List.set_cons_zero, List.set_cons_succ]
              refine SteadyN.take ?_ rfl (by intro s u hu; go_simp; with_reducible rfl) ?_
              simp only [Act.put, List.setIfInBounds_toArray, List.set_cons_zero, List.set_cons_succ]
              refine SteadyN.take ?_ rfl (by intro s u hu; go_simp; with_reducible rfl) ?_
              simp only [Act.put, List.setIfInBounds_toArray, List.set_cons_zero, List.set_cons_succ]
              refine SteadyN.take (.int .i64 (n0 : Int)) rfl (fun s u hu => load_cell rfl rfl (HC.out u (HN.out.drew.next hu.below).below).1 cellInt) ?_
              simp only [Act.put, List.setIfInBounds_toArray, List.set_cons_zero, List.set_cons_succ]
              refine SteadyN.take ?_ rfl (by intro s u hu; go_simp; with_reducible rfl) ?_
              simp only [Act.put, List.setIfInBounds_toArray, List.set_cons_zero, List.set_cons_succ]
              refine SteadyN.take ?_ rfl (by intro s u hu; go_simp; with_reducible rfl) ?_
              simp only [Act.put, List.setIfInBounds_toArray, List.set_cons_zero, List.set_cons_succ]
              refine SteadyN.take (.int .i64 (n1 : Int)) rfl (fun s u hu => load_cell rfl rfl (HC.out u (HN.out.drew.next hu.below).below).2.1 cellInt) ?_
              simp only [Act.put, List.setIfInBounds_toArray, List.set_cons_zero, List.set_cons_succ]
              refine SteadyN.take ?_ rfl (by intro s u hu; go_simp; with_reducible rfl) ?_
              simp only [Act.put, List.setIfInBounds_toArray, List.set_cons_zero, List.set_cons_succ]
              refine SteadyN.take ?_ rfl (by intro s u hu; go_simp; with_reducible rfl) ?_
              simp only [Act.put, List.setIfInBounds_toArray, List.set_cons_zero, List.set_cons_succ]
              refine SteadyN.take (.int .i64 (n2 : Int)) rfl (fun s u hu => load_cell rfl rfl (HC.out u (HN.out.drew.next hu.below).below).2.2.1 cellInt) ?_
              simp only [Act.put, List.setIfInBounds_toArray, List.set_cons_zero, List.set_cons_succ]
              refine SteadyN.take ?_ rfl (by intro s u hu; go_simp; with_reducible rfl) ?_
              simp only [Act.put, List.setIfInBounds_toArray, List.set_cons_zero, List.set_cons_succ]
              refine SteadyN.take ?_ rfl (by intro s u hu; go_simp; with_reducible rfl) ?_
              simp only [Act.put, List.setIfInBounds_toArray, List.set_cons_zero, List.set_cons_succ]
              refine SteadyN.take (.int .i64 (n3 : Int)) rfl (fun s u hu => load_cell rfl rfl (HC.out u (HN.out.drew.next hu.below).below).2.2.2 cellInt) ?_
              simp only [Act.put, List.setIfInBounds_toArray, List.set_cons_zero, List.set_cons_succ]
              refine SteadyN.take ?_ rfl (by intro s u hu; go_simp; with_reducible rfl) ?_
              simp only [Act.put, List.setIfInBounds_toArray, List.set_cons_zero, List.set_cons_succ]
              refine SteadyN.take (.string T0) rfl (fun s u hu => Hold.load1_run (HN.out.drew.next hu.below) 0 rfl rfl rfl rfl cellStr) ?_
              simp only [Act.put, List.setIfInBounds_toArray, List.set_cons_zero, List.set_cons_succ]
              refine SteadyN.take ?_ rfl (by intro s u hu; go_simp; with_reducible rfl) ?_
              simp only [Act.put, List.setIfInBounds_toArray, List.set_cons_zero, List.set_cons_succ]
              refine SteadyN.take (.string T1) rfl (fun s u hu => Hold.load1_run (HN.out.drew.next hu.below) 0 rfl rfl rfl rfl cellStr) ?_
              simp only [Act.put, List.setIfInBounds_toArray, List.set_cons_zero, List.set_cons_succ]
              refine SteadyN.take (.agg X.toArray) rfl (fun s u hu => (by rw [HAG.out]; go_simp)) ?_
              simp only [Act.put, List.setIfInBounds_toArray, List.set_cons_zero, List.set_cons_succ]
              refine SteadyN.nil ?_
              simp only [SteadyN.made]
              intro p1 w hS
              obtain ⟨b2, rfl, HM2⟩ := Hold.made1 HN.out.drew hS (i := 18) (p := p1) (by simp [SteadyN.upd])
              clear HN hS
              simp only [List.nil_append, List.cons_append] at HM2
              have HN := Lib.hid HM2
              clear HM2
              simp only [Act.put, List.setIfInBounds_toArray, List.set_cons_zero, List.set_cons_succ]

              go_upto_region 18 with ((first
                | (with_reducible refine Hold.store HN.out 1 (v' := X) rfl rfl rfl rfl rfl (by rw [zeroC_len, HX.out.len]; exact Nat.le_of_eq (Nat.zero_add _)) (Hold.lay_all (zeroC_len.trans HX.out.len.symm)) (HX.out.one) (by rw [HX.out.len]; exact seaRow) ?_; clear HN; intro w HN; simp only [List.set_cons_zero, List.set_cons_succ] at HN; replace HN := Lib.hid HN)))

              cases c with
              | false =>
                have hY := HY.out.1
                have hE := HY.out.2
                rw [HRD.out, told_no _ _ _ _ _ _ (fun h => by have h1 := HCC.out; rw [HL.out, h.2.2] at h1; cases h1)] at hY hE
                obtain rfl : Y = zeroC := hY
                obtain rfl : E = 3 := hE
                clear HRD HY HL HCC
                go_upto_region 19 with ((first
                  | (with_reducible refine Hold.load HN.out 1 (cs := X) rfl rfl rfl rfl (Hold.Part.all _) (by rw [HX.out.len]; exact seaRow) ?_)
                  | (with_reducible refine (R4.out _).mono ?_; rintro e w ⟨rfl, hb⟩; replace HN := Lib.hid (HN.out.next hb); clear hb)))

                have HM2 := Lib.hid (HM.out.next HN.out.below)
                clear HM HN
                go_wp2_with ((first
                  | (with_reducible refine Hold.build (t := 23) (parts := #[]) (cs := zeroC) rfl rfl ?_ ?_; focus (kernel_rfl))
                  | (with_reducible refine Hold.store HM2.out 0 (v' := zeroC) rfl rfl rfl rfl rfl (by rw [Nat.zero_add]; exact Nat.le_refl _) (Hold.lay_all rfl) (zeroC_one) (by rw [zeroC_len]; exact seaRow) ?_; clear HM2; intro w HM2; simp only [List.set_cons_zero] at HM2; replace HM2 := Lib.hid HM2)))

                refine bodyPost_ret (Hold.resultsCT HM2.out 0 rfl _ rfl rfl rfl (by rw [zeroC_len]; exact seaRow)) rfl ?_
                exact ⟨rfl, HM2.out.below⟩
              | true =>
                have hY := HY.out.1
                have hE := HY.out.2
                rw [HRD.out, told_yes _ _ _ _ _ _ ⟨hqs, rfl, by rw [← HL.out]; exact HCC.out.symm⟩, ← HL.out] at hY hE
                obtain rfl : E = 0 := hE
                obtain rfl : Y = X := hY.trans HXC.out.symm
                clear HRD HY HL HCC hY
                go_upto_region 20 with ((first
                  | (with_reducible refine Hold.load HN.out 1 (cs := Y) rfl rfl rfl rfl (Hold.Part.all _) (by rw [HX.out.len]; exact seaRow) ?_)
                  | (with_reducible refine (R4.out _).mono ?_; rintro e w ⟨rfl, hb⟩; replace HN := Lib.hid (HN.out.next hb); clear hb)))

                have HM2 := Lib.hid (HM.out.next HN.out.below)
                go_wp2_with ((first
                  | (with_reducible refine Hold.load HN.out 1 (cs := Y) rfl rfl rfl rfl (Hold.Part.all _) (by rw [HX.out.len]; exact seaRow) ?_)
                  | (with_reducible refine Hold.store HM2.out 0 (v' := Y) rfl rfl rfl rfl rfl (by rw [zeroC_len, HX.out.len]; exact Nat.le_of_eq (Nat.zero_add _)) (Hold.lay_all (zeroC_len.trans HX.out.len.symm)) (HX.out.one) (by rw [HX.out.len]; exact seaRow) ?_; clear HM2; intro w HM2; simp only [List.set_cons_zero] at HM2; replace HM2 := Lib.hid HM2)))

                refine bodyPost_ret (Hold.resultsCT HM2.out 0 rfl _ rfl rfl rfl (by rw [HX.out.len]; exact seaRow)) rfl ?_
                exact ⟨rfl, HM2.out.below⟩
            · have hn4 : ((M : Int) != 4) = true := by simp; omega
              have hY := HY.out.1
              have hE := HY.out.2
              rw [HRD.out, told_no _ _ _ _ _ _ (fun h => hM4 (HMM.out.1.trans h.2.1))] at hY hE
              obtain rfl : Y = zeroC := hY
              obtain rfl : E = 3 := hE
              clear HRD HY
              go_upto_region 16 with (fail)
              have HM2 := Lib.hid (HM.out.next HN.out.below)
              clear HM HN
              go_wp2_with ((first
                | (with_reducible refine Hold.build (t := 23) (parts := #[]) (cs := zeroC) rfl rfl ?_ ?_; focus (kernel_rfl))
                | (with_reducible refine Hold.store HM2.out 0 (v' := zeroC) rfl rfl rfl rfl rfl (by rw [Nat.zero_add]; exact Nat.le_refl _) (Hold.lay_all rfl) (zeroC_one) (by rw [zeroC_len]; exact seaRow) ?_; clear HM2; intro w HM2; simp only [List.set_cons_zero] at HM2; replace HM2 := Lib.hid HM2)))

              refine bodyPost_ret (Hold.resultsCT HM2.out 0 rfl _ rfl rfl rfl (by rw [zeroC_len]; exact seaRow)) rfl ?_
              exact ⟨rfl, HM2.out.below⟩
          · have hd : decide ((q : Int) < (s.size : Int)) = true := decide_eq_true (by omega)
            have hd2 : decide (q < s.size) = true := decide_eq_true (by omega)
            have hY := HY.out.1
            have hE := HY.out.2
            rw [HRD.out, told_no _ _ _ _ _ _ (fun h => hqs h.1)] at hY hE
            obtain rfl : Y = zeroC := hY
            obtain rfl : E = 3 := hE
            clear HRD HY
            go_upto_region 16 with (fail)
            have HM2 := Lib.hid (HM.out.next HN.out.below)
            clear HM HN
            go_wp2_with ((first
              | (with_reducible refine Hold.build (t := 23) (parts := #[]) (cs := zeroC) rfl rfl ?_ ?_; focus (kernel_rfl))
              | (with_reducible refine Hold.store HM2.out 0 (v' := zeroC) rfl rfl rfl rfl rfl (by rw [Nat.zero_add]; exact Nat.le_refl _) (Hold.lay_all rfl) (zeroC_one) (by rw [zeroC_len]; exact seaRow) ?_; clear HM2; intro w HM2; simp only [List.set_cons_zero] at HM2; replace HM2 := Lib.hid HM2)))

            refine bodyPost_ret (Hold.resultsCT HM2.out 0 rfl _ rfl rfl rfl (by rw [zeroC_len]; exact seaRow)) rfl ?_
            exact ⟨rfl, HM2.out.below⟩
end Go.Proofs.Ytnglnocdffjnoaa.Sea
