/-
  The document's own answer for Read of layer 13 is what the plain mathematics of the text Sea says, and leaves all memory that was there as it was. Conditions: the text has no more than 10^9 bytes.
-/
import Derived.Test.YtnglnocdffjnoaaSeaD
import Derived.Test.YtnglnocdffjnoaaRSeaA
namespace Go.Proofs.Ytnglnocdffjnoaa.RSea
open Go.RowKit Mur Prt Lanes Sea
set_option maxRecDepth 100000

set_option maxHeartbeats 3200000 in
theorem read_any (s : ByteArray) (Y : List Value) (E : Int) (w : World) (hY : Y = (seaV (read s.data.toList)).cells) (hE : E = errV (read s.data.toList)) (hs : s.size ≤ 1000000000) :
    Calls Try.prog 12 #[.string s] w fun e w' => e = .returned (.tuple #[.agg Y.toArray, .int .i64 E]) ∧ Below w.heap.size w w' := by
  have hsl : s.data.toList.length = s.size := rfl
  have RS := Lib.hid (fun (q : Nat) (hq : q ≤ s.size) (V : ByteArray) (B E : Int) (hV : V = strV (readStr s.data.toList (q : Int))) (hB : B = posV (readStr s.data.toList (q : Int))) (hE : E = errV (readStr s.data.toList (q : Int))) (u : World) => RPrt.readStr_any s (q : Int) u V B E hV hB hE (by omega) (by omega) hs)
  have RS0 := Lib.hid (fun (V : ByteArray) (B E : Int) (hV : V = strV (readStr s.data.toList 0)) (hB : B = posV (readStr s.data.toList 0)) (hE : E = errV (readStr s.data.toList 0)) (u : World) => RPrt.readStr_any s 0 u V B E hV hB hE (by omega) (by omega) hs)
  have HM := Lib.hid (Hold.Hld.start w)
  cases h1 : readStr s.data.toList 0 with
  | error y =>
    have hre := read_one _ y h1
    rw [hre] at hY hE
    obtain rfl : Y = zeroC := hY
    obtain rfl : E = (y : Int) := hE
    have R1 := Lib.hid (fun u => RS0.out ⟨#[]⟩ 0 (y : Int) (by rw [h1]; rfl) (by rw [h1]; rfl) (by rw [h1]; rfl) u)
    have hy := readStr_err _ _ _ h1
    have hne : ((y : Int) != 0) = true := by simp; omega
    clear h1 hre hy
    go_enter Try.func12, Try.ntmps12
    go_wp2_with ((first
      | (with_reducible refine Hold.alloc HM.out rfl rfl zeroC zero_sea ?_; clear HM; intro b0 w HM; simp only [List.nil_append] at HM; replace HM := Lib.hid HM)
      | (with_reducible refine (R1.out _).mono ?_; rintro e w ⟨rfl, hb⟩; replace HM := Lib.hid (HM.out.next hb); clear hb)
      | (with_reducible refine Hold.build (t := 23) (parts := #[]) (cs := zeroC) rfl rfl ?_ ?_; focus (kernel_rfl))
      | (with_reducible refine Hold.store HM.out 0 (v' := zeroC) rfl rfl rfl rfl rfl (by rw [Nat.zero_add]; exact Nat.le_refl _) (Hold.lay_all rfl) (zeroC_one) (by rw [zeroC_len]; exact seaRow) ?_; clear HM; intro w HM; simp only [List.set_cons_zero] at HM; replace HM := Lib.hid HM)))

    refine bodyPost_ret (Hold.resultsCT HM.out 0 rfl _ rfl rfl rfl (by rw [zeroC_len]; exact seaRow)) rfl ?_
    exact ⟨rfl, HM.out.below⟩
  | ok gp =>
    obtain ⟨g, p0⟩ := gp
    obtain ⟨G, hG⟩ : ∃ G, G = tx g := ⟨_, rfl⟩
    have R1 := Lib.hid (fun u => RS0.out G (p0 : Int) 0 (by rw [h1, hG]; rfl) (by rw [h1]; rfl) (by rw [h1]; rfl) u)
    have hp0 : p0 ≤ s.size := (readStr_facts _ _ _ _ h1).2.2.1
    have hgl := (readStr_facts _ _ _ _ h1).2.2.2.1
    have hne : ((0 : Int) != 0) = false := by simp
    cases h2 : readAll readNum s.data.toList (p0 : Int) with
    | error y =>
      have hre := read_two _ g p0 y h1 h2
      rw [hre] at hY hE
      obtain rfl : Y = zeroC := hY
      obtain rfl : E = (y : Int) := hE
      have R2 := Lib.hid (fun u => RPrt.readnums_any s (p0 : Int) u [] 0 (y : Int) (by rw [h2]; rfl) (by rw [h2]; rfl) (by rw [h2]; rfl) (by omega) (by omega) hs)
      have hy := readAll_err _ _ _ h2
      have hne2 : ((y : Int) != 0) = true := by simp; omega
      clear h1 h2 hre hy hG hgl
      go_enter Try.func12, Try.ntmps12
      go_wp2_with ((first
        | (with_reducible refine Hold.alloc HM.out rfl rfl zeroC zero_sea ?_; clear HM; intro b0 w HM; simp only [List.nil_append] at HM; replace HM := Lib.hid HM)
        | (with_reducible refine (R1.out _).mono ?_; rintro e w ⟨rfl, hb⟩; replace HM := Lib.hid (HM.out.next hb); clear hb)
        | (with_reducible refine (R2.out _).mono ?_; rintro e w ⟨ao, c, rfl, -, hb⟩; replace HM := Lib.hid (HM.out.next hb); clear hb)
        | (with_reducible refine Hold.build (t := 23) (parts := #[]) (cs := zeroC) rfl rfl ?_ ?_; focus (kernel_rfl))
        | (with_reducible refine Hold.store HM.out 0 (v' := zeroC) rfl rfl rfl rfl rfl (by rw [Nat.zero_add]; exact Nat.le_refl _) (Hold.lay_all rfl) (zeroC_one) (by rw [zeroC_len]; exact seaRow) ?_; clear HM; intro w HM; simp only [List.set_cons_zero] at HM; replace HM := Lib.hid HM)))

      refine bodyPost_ret (Hold.resultsCT HM.out 0 rfl _ rfl rfl rfl (by rw [zeroC_len]; exact seaRow)) rfl ?_
      exact ⟨rfl, HM.out.below⟩
    | ok np =>
      obtain ⟨ns, p⟩ := np
      have R2 := Lib.hid (fun u => RPrt.readnums_any s (p0 : Int) u ns (p : Int) 0 (by rw [h2]; rfl) (by rw [h2]; rfl) (by rw [h2]; rfl) (by omega) (by omega) hs)
      have hfit := read_fits _ _ _ _ h2
      have hp : p ≤ s.size := hfit.2.2
      obtain ⟨M, hM⟩ : ∃ M, M = ns.length := ⟨_, rfl⟩
      rw [← hM] at R2
      have HH := Lib.hid (And.intro h1 h2)
      have HG := Lib.hid (And.intro hG hgl)
      have HMM := Lib.hid (And.intro hM hfit)
      have HY := Lib.hid (And.intro hY hE)
      clear h1 h2 hG hgl hfit hM hY hE
      cases h3 : readStr s.data.toList (p : Int) with
      | error y =>
        have hY := HY.out.1
        have hE := HY.out.2
        rw [read_three _ g ns p0 p y HH.out.1 HH.out.2 h3] at hY hE
        obtain rfl : Y = zeroC := hY
        obtain rfl : E = (y : Int) := hE
        have hy := readStr_err _ _ _ h3
        have hne3 : ((y : Int) != 0) = true := by simp; omega
        have R3 := Lib.hid (fun u => RS.out p hp ⟨#[]⟩ 0 (y : Int) (by rw [h3]; rfl) (by rw [h3]; rfl) (by rw [h3]; rfl) u)
        clear h3 hy HY HH
        go_enter Try.func12, Try.ntmps12
        go_upto_region 9 with ((first
          | (with_reducible refine Hold.alloc HM.out rfl rfl zeroC zero_sea ?_; clear HM; intro b0 w HM; simp only [List.nil_append] at HM; replace HM := Lib.hid HM)
          | (with_reducible refine (R1.out _).mono ?_; rintro e w ⟨rfl, hb⟩; replace HM := Lib.hid (HM.out.next hb); clear hb)
          | (with_reducible refine (R2.out _).mono ?_; rintro e w2 ⟨ao, c, rfl, hi, hb⟩; replace HM := Lib.hid (HM.out.next hb); clear hb; have HI := Lib.hid hi; clear hi; have HN := Lib.hid (Hold.Hld.start w2))
          | (with_reducible refine (R3.out _).mono ?_; rintro e w ⟨rfl, hb⟩; replace HN := Lib.hid (HN.out.next hb); clear hb)))

        have HM2 := Lib.hid (HM.out.next HN.out.below)
        clear HM HN
        go_wp2_with ((first
          | (with_reducible refine Hold.build (t := 23) (parts := #[]) (cs := zeroC) rfl rfl ?_ ?_; focus (kernel_rfl))
          | (with_reducible refine Hold.store HM2.out 0 (v' := zeroC) rfl rfl rfl rfl rfl (by rw [Nat.zero_add]; exact Nat.le_refl _) (Hold.lay_all rfl) (zeroC_one) (by rw [zeroC_len]; exact seaRow) ?_; clear HM2; intro w HM2; simp only [List.set_cons_zero] at HM2; replace HM2 := Lib.hid HM2)))

        refine bodyPost_ret (Hold.resultsCT HM2.out 0 rfl _ rfl rfl rfl (by rw [zeroC_len]; exact seaRow)) rfl ?_
        exact ⟨rfl, HM2.out.below⟩
      | ok bp =>
        obtain ⟨b, p3⟩ := bp
        obtain ⟨T0, hT0⟩ : ∃ T, T = tx b := ⟨_, rfl⟩
        have R3 := Lib.hid (fun u => RS.out p hp T0 (p3 : Int) 0 (by rw [h3, hT0]; rfl) (by rw [h3]; rfl) (by rw [h3]; rfl) u)
        have hp3 : p3 ≤ s.size := (readStr_facts _ _ _ _ h3).2.2.1
        have hz0 : T0.size ≤ 6000 := by rw [hT0]; exact (readStr_facts _ _ _ _ h3).2.2.2.1
        cases h4 : readStr s.data.toList (p3 : Int) with
        | error y =>
          have hY := HY.out.1
          have hE := HY.out.2
          rw [read_four _ g b ns p0 p p3 y HH.out.1 HH.out.2 h3 h4] at hY hE
          obtain rfl : Y = zeroC := hY
          obtain rfl : E = (y : Int) := hE
          have hy := readStr_err _ _ _ h4
          have hne3 : ((y : Int) != 0) = true := by simp; omega
          have R4 := Lib.hid (fun u => RS.out p3 hp3 ⟨#[]⟩ 0 (y : Int) (by rw [h4]; rfl) (by rw [h4]; rfl) (by rw [h4]; rfl) u)
          clear h3 h4 hy HY HH hT0
          go_enter Try.func12, Try.ntmps12
          go_upto_region 12 with ((first
            | (with_reducible refine Hold.alloc HM.out rfl rfl zeroC zero_sea ?_; clear HM; intro b0 w HM; simp only [List.nil_append] at HM; replace HM := Lib.hid HM)
            | (with_reducible refine (R1.out _).mono ?_; rintro e w ⟨rfl, hb⟩; replace HM := Lib.hid (HM.out.next hb); clear hb)
            | (with_reducible refine (R2.out _).mono ?_; rintro e w2 ⟨ao, c, rfl, hi, hb⟩; replace HM := Lib.hid (HM.out.next hb); clear hb; have HI := Lib.hid hi; clear hi; have HN := Lib.hid (Hold.Hld.start w2))
            | (with_reducible refine (R3.out _).mono ?_; rintro e w ⟨rfl, hb⟩; replace HN := Lib.hid (HN.out.next hb); clear hb)
            | (with_reducible refine (R4.out _).mono ?_; rintro e w ⟨rfl, hb⟩; replace HN := Lib.hid (HN.out.next hb); clear hb)))

          have HM2 := Lib.hid (HM.out.next HN.out.below)
          clear HM HN
          go_wp2_with ((first
            | (with_reducible refine Hold.build (t := 23) (parts := #[]) (cs := zeroC) rfl rfl ?_ ?_; focus (kernel_rfl))
            | (with_reducible refine Hold.store HM2.out 0 (v' := zeroC) rfl rfl rfl rfl rfl (by rw [Nat.zero_add]; exact Nat.le_refl _) (Hold.lay_all rfl) (zeroC_one) (by rw [zeroC_len]; exact seaRow) ?_; clear HM2; intro w HM2; simp only [List.set_cons_zero] at HM2; replace HM2 := Lib.hid HM2)))

          refine bodyPost_ret (Hold.resultsCT HM2.out 0 rfl _ rfl rfl rfl (by rw [zeroC_len]; exact seaRow)) rfl ?_
          exact ⟨rfl, HM2.out.below⟩
        | ok xp =>
          obtain ⟨x, q⟩ := xp
          obtain ⟨T1, hT1⟩ : ∃ T, T = tx x := ⟨_, rfl⟩
          have R4 := Lib.hid (fun u => RS.out p3 hp3 T1 (q : Int) 0 (by rw [h4, hT1]; rfl) (by rw [h4]; rfl) (by rw [h4]; rfl) u)
          have hq : q ≤ s.size := (readStr_facts _ _ _ _ h4).2.2.1
          have hz1 : T1.size ≤ 6000 := by rw [hT1]; exact (readStr_facts _ _ _ _ h4).2.2.2.1
          have hrd := read_of _ g b x ns p0 p p3 q HH.out.1 HH.out.2 h3 h4
          rw [show b = T0.data.toList by rw [hT0], show x = T1.data.toList by rw [hT1]] at hrd
          have HRD := Lib.hid hrd
          clear hrd h3 h4 hT0 hT1 HH RS RS0
          go_enter Try.func12, Try.ntmps12
          go_upto_region 13 with ((first
            | (with_reducible refine Hold.alloc HM.out rfl rfl zeroC zero_sea ?_; clear HM; intro b0 w HM; simp only [List.nil_append] at HM; replace HM := Lib.hid HM)
            | (with_reducible refine (R1.out _).mono ?_; rintro e w ⟨rfl, hb⟩; replace HM := Lib.hid (HM.out.next hb); clear hb)
            | (with_reducible refine (R2.out _).mono ?_; rintro e w2 ⟨ao, c, rfl, hi, hb⟩; replace HM := Lib.hid (HM.out.next hb); clear hb; have HI := Lib.hid hi; clear hi; have HN := Lib.hid (Hold.Hld.start w2))
            | (with_reducible refine (R3.out _).mono ?_; rintro e w ⟨rfl, hb⟩; replace HN := Lib.hid (HN.out.next hb); clear hb)
            | (with_reducible refine (R4.out _).mono ?_; rintro e w ⟨rfl, hb⟩; replace HN := Lib.hid (HN.out.next hb); clear hb)))

          by_cases hqs : q = s.size
          · have hd : ((q : Int) != (s.size : Int)) = false := by simp; omega
            by_cases hM4 : M = 4
            · obtain ⟨n0, n1, n2, n3, rfl⟩ : ∃ n0 n1 n2 n3, ns = [n0, n1, n2, n3] := by
                have hl := HMM.out.1
                match ns, hl with
                | [x, y, z, u], _ => exact ⟨x, y, z, u, rfl⟩
                | [], hl => exact absurd hl (by rw [hM4]; decide)
                | [_], hl => exact absurd hl (by rw [hM4]; simp)
                | [_, _], hl => exact absurd hl (by rw [hM4]; simp)
                | [_, _, _], hl => exact absurd hl (by rw [hM4]; simp)
                | _ :: _ :: _ :: _ :: _ :: _, hl => exact absurd hl (by rw [hM4]; simp)
              subst hM4
              obtain ⟨l, hl⟩ : ∃ l, l = sea g [n0, n1, n2, n3] T0.data.toList T1.data.toList := ⟨_, rfl⟩
              obtain ⟨X, hX, hXc⟩ := named (svOf l)
              have hag : Value.agg X.toArray = .agg #[.string G, .int .i64 (n0 : Int), .int .i64 (n1 : Int), .int .i64 (n2 : Int), .int .i64 (n3 : Int), .string T0, .string T1] := by
                rw [hX.agg, hl, HG.out.1]
                show Value.agg #[.string (tx g), .int .i64 (n0 : Int), .int .i64 (n1 : Int), .int .i64 (n2 : Int), .int .i64 (n3 : Int), .string (tx T0.data.toList), .string (tx T1.data.toList)] = _
                rw [tx_data, tx_data]
              obtain ⟨bl, ol, rfl, hbl, hcell⟩ := HI.out (by simp [zl])
              have k0 := hcell 0 n0 rfl
              have k1 := hcell 1 n1 rfl
              have k2 := hcell 2 n2 rfl
              have k3 := hcell 3 n3 rfl
              rw [Nat.add_zero] at k0
              have HC := Lib.hid (fun (u : World) (hu : Below w2.heap.size w2 u) => And.intro ((hu.cell (p := ⟨bl, ol, none⟩) hbl).trans k0) (And.intro ((hu.cell (p := ⟨bl, ol + 1, none⟩) hbl).trans k1) (And.intro ((hu.cell (p := ⟨bl, ol + 2, none⟩) hbl).trans k2) ((hu.cell (p := ⟨bl, ol + 3, none⟩) hbl).trans k3))))
              obtain ⟨c, hc⟩ : ∃ c, c = right l := ⟨_, rfl⟩
              have hszG : (svOf l).g.size = g.length := by rw [hl]; rfl
              have hszB : (svOf l).b.size = T0.size := by rw [hl]; rfl
              have hszX : (svOf l).x.size = T1.size := by rw [hl]; rfl
              have R5 := Lib.hid (fun u => RSea.right_any (svOf l) X c u hX (by rw [svOf_l]; exact hc))
              have HAG := Lib.hid hag
              have HX := Lib.hid hX
              have HXC := Lib.hid hXc
              have HL := Lib.hid hl
              have HCC := Lib.hid hc
              clear hag hX hXc hl hc hszG hszB hszX hbl hcell k0 k1 k2 k3
              go_upto_region 15 with (fail)
              refine SteadyN.region 17 [16] [0, 1, 2, 3, 4, 5, 6, 7, 8, 9, 10, 11, 12, 13, 14, 15] (by kernel_rfl) (by kernel_rfl) (SteadyN.Made _ 23 zeroC) (fun k hk o ho => by
                simp only [List.mem_cons, List.not_mem_nil, or_false] at hk
                subst hk <;> (obtain rfl : _ = o := Option.some.inj ho; exact SteadyN.makes rfl 23 rfl _ zero_sea)) (SteadyN.Made.start _ _ _) ?_
              simp only [List.filterMap_cons, List.filterMap_nil, List.drop_succ_cons, List.drop_zero, List.getElem?_cons_zero, List.getElem?_cons_succ, Option.map_some]
              refine SteadyN.take ?_ rfl (by intro s u hu; go_simp; with_reducible rfl) ?_
              simp only [Act.put, List.setIfInBounds_toArray, List.set_cons_zero, List.set_cons_succ]
              refine SteadyN.take ?_ rfl (by intro s u hu; go_simp; with_reducible rfl) ?_
              simp only [Act.put, List.setIfInBounds_toArray, List.set_cons_zero, List.set_cons_succ]
              refine SteadyN.take ?_ rfl (by intro s u hu; go_simp; with_reducible rfl) ?_
              simp only [Act.put, List.setIfInBounds_toArray, List.set_cons_zero, List.set_cons_succ]
              refine SteadyN.take (.int .i64 (n0 : Int)) rfl (fun s u hu => load_cell rfl rfl (HC.out u (HN.out.drew.next hu.below).below).1 cellInt) ?_
              simp only [Act.put, List.setIfInBounds_toArray, List.set_cons_zero, List.set_cons_succ]
              refine SteadyN.take ?_ rfl (by intro s u hu; go_simp; with_reducible rfl) ?_
              simp only [Act.put, List.setIfInBounds_toArray, List.set_cons_zero, List.set_cons_succ]
              refine SteadyN.take ?_ rfl (by intro s u hu; go_simp; with_reducible rfl) ?_
              simp only [Act.put, List.setIfInBounds_toArray, List.set_cons_zero, List.set_cons_succ]
              refine SteadyN.take (.int .i64 (n1 : Int)) rfl (fun s u hu => load_cell rfl rfl (HC.out u (HN.out.drew.next hu.below).below).2.1 cellInt) ?_
              simp only [Act.put, List.setIfInBounds_toArray, List.set_cons_zero, List.set_cons_succ]
              refine SteadyN.take ?_ rfl (by intro s u hu; go_simp; with_reducible rfl) ?_
              simp only [Act.put, List.setIfInBounds_toArray, List.set_cons_zero, List.set_cons_succ]
              refine SteadyN.take ?_ rfl (by intro s u hu; go_simp; with_reducible rfl) ?_
              simp only [Act.put, List.setIfInBounds_toArray, List.set_cons_zero, List.set_cons_succ]
              refine SteadyN.take (.int .i64 (n2 : Int)) rfl (fun s u hu => load_cell rfl rfl (HC.out u (HN.out.drew.next hu.below).below).2.2.1 cellInt) ?_
              simp only [Act.put, List.setIfInBounds_toArray, List.set_cons_zero, List.set_cons_succ]
              refine SteadyN.take ?_ rfl (by intro s u hu; go_simp; with_reducible rfl) ?_
              simp only [Act.put, List.setIfInBounds_toArray, List.set_cons_zero, List.set_cons_succ]
              refine SteadyN.take ?_ rfl (by intro s u hu; go_simp; with_reducible rfl) ?_
              simp only [Act.put, List.setIfInBounds_toArray, List.set_cons_zero, List.set_cons_succ]
              refine SteadyN.take (.int .i64 (n3 : Int)) rfl (fun s u hu => load_cell rfl rfl (HC.out u (HN.out.drew.next hu.below).below).2.2.2 cellInt) ?_
              simp only [Act.put, List.setIfInBounds_toArray, List.set_cons_zero, List.set_cons_succ]
              refine SteadyN.take ?_ rfl (by intro s u hu; go_simp; with_reducible rfl) ?_
              simp only [Act.put, List.setIfInBounds_toArray, List.set_cons_zero, List.set_cons_succ]
              refine SteadyN.take ?_ rfl (by intro s u hu; go_simp; with_reducible rfl) ?_
              simp only [Act.put, List.setIfInBounds_toArray, List.set_cons_zero, List.set_cons_succ]
              refine SteadyN.take (.agg X.toArray) rfl (fun s u hu => (by rw [HAG.out]; go_simp)) ?_
              simp only [Act.put, List.setIfInBounds_toArray, List.set_cons_zero, List.set_cons_succ]
              refine SteadyN.nil ?_
              simp only [SteadyN.made]
              intro p1 w hS
              obtain ⟨b2, rfl, HM2⟩ := Hold.made1 HN.out.drew hS (i := 16) (p := p1) (by simp [SteadyN.upd])
              clear HN hS
              simp only [List.nil_append] at HM2
              have HN := Lib.hid HM2
              clear HM2
              simp only [Act.put, List.setIfInBounds_toArray, List.set_cons_zero, List.set_cons_succ]

              go_upto_region 16 with ((first
                | (with_reducible refine Hold.store HN.out 0 (v' := X) rfl rfl rfl rfl rfl (by rw [zeroC_len, HX.out.len]; exact Nat.le_of_eq (Nat.zero_add _)) (Hold.lay_all (zeroC_len.trans HX.out.len.symm)) (HX.out.one) (by rw [HX.out.len]; exact seaRow) ?_; clear HN; intro w HN; simp only [List.set_cons_zero] at HN; replace HN := Lib.hid HN)))

              cases c with
              | false =>
                have hY := HY.out.1
                have hE := HY.out.2
                rw [HRD.out, told_no _ _ _ _ _ _ (fun h => by have h1 := HCC.out; rw [HL.out, h.2.2] at h1; cases h1)] at hY hE
                obtain rfl : Y = zeroC := hY
                obtain rfl : E = 3 := hE
                clear HRD HY HL HCC
                go_upto_region 17 with ((first
                  | (with_reducible refine Hold.load HN.out 0 (cs := X) rfl rfl rfl rfl (Hold.Part.all _) (by rw [HX.out.len]; exact seaRow) ?_)
                  | (with_reducible refine (R5.out _).mono ?_; rintro e w ⟨rfl, hb⟩; replace HN := Lib.hid (HN.out.next hb); clear hb)))

                have HM2 := Lib.hid (HM.out.next HN.out.below)
                clear HM HN
                go_wp2_with ((first
                  | (with_reducible refine Hold.build (t := 23) (parts := #[]) (cs := zeroC) rfl rfl ?_ ?_; focus (kernel_rfl))
                  | (with_reducible refine Hold.store HM2.out 0 (v' := zeroC) rfl rfl rfl rfl rfl (by rw [Nat.zero_add]; exact Nat.le_refl _) (Hold.lay_all rfl) (zeroC_one) (by rw [zeroC_len]; exact seaRow) ?_; clear HM2; intro w HM2; simp only [List.set_cons_zero] at HM2; replace HM2 := Lib.hid HM2)))

                refine bodyPost_ret (Hold.resultsCT HM2.out 0 rfl _ rfl rfl rfl (by rw [zeroC_len]; exact seaRow)) rfl ?_
                exact ⟨rfl, HM2.out.below⟩
              | true =>
                have hY := HY.out.1
                have hE := HY.out.2
                rw [HRD.out, told_yes _ _ _ _ _ _ ⟨hqs, rfl, by rw [← HL.out]; exact HCC.out.symm⟩, ← HL.out] at hY hE
                obtain rfl : E = 0 := hE
                obtain rfl : Y = X := hY.trans HXC.out.symm
                clear HRD HY HL HCC hY
                go_upto_region 18 with ((first
                  | (with_reducible refine Hold.load HN.out 0 (cs := Y) rfl rfl rfl rfl (Hold.Part.all _) (by rw [HX.out.len]; exact seaRow) ?_)
                  | (with_reducible refine (R5.out _).mono ?_; rintro e w ⟨rfl, hb⟩; replace HN := Lib.hid (HN.out.next hb); clear hb)))

                have HM2 := Lib.hid (HM.out.next HN.out.below)
                go_wp2_with ((first
                  | (with_reducible refine Hold.load HN.out 0 (cs := Y) rfl rfl rfl rfl (Hold.Part.all _) (by rw [HX.out.len]; exact seaRow) ?_)
                  | (with_reducible refine Hold.store HM2.out 0 (v' := Y) rfl rfl rfl rfl rfl (by rw [zeroC_len, HX.out.len]; exact Nat.le_of_eq (Nat.zero_add _)) (Hold.lay_all (zeroC_len.trans HX.out.len.symm)) (HX.out.one) (by rw [HX.out.len]; exact seaRow) ?_; clear HM2; intro w HM2; simp only [List.set_cons_zero] at HM2; replace HM2 := Lib.hid HM2)))

                refine bodyPost_ret (Hold.resultsCT HM2.out 0 rfl _ rfl rfl rfl (by rw [HX.out.len]; exact seaRow)) rfl ?_
                exact ⟨rfl, HM2.out.below⟩
            · have hn4 : ((M : Int) != 4) = true := by simp; omega
              have hY := HY.out.1
              have hE := HY.out.2
              rw [HRD.out, told_no _ _ _ _ _ _ (fun h => hM4 (HMM.out.1.trans h.2.1))] at hY hE
              obtain rfl : Y = zeroC := hY
              obtain rfl : E = 3 := hE
              clear HRD HY
              go_upto_region 14 with (fail)
              have HM2 := Lib.hid (HM.out.next HN.out.below)
              clear HM HN
              go_wp2_with ((first
                | (with_reducible refine Hold.build (t := 23) (parts := #[]) (cs := zeroC) rfl rfl ?_ ?_; focus (kernel_rfl))
                | (with_reducible refine Hold.store HM2.out 0 (v' := zeroC) rfl rfl rfl rfl rfl (by rw [Nat.zero_add]; exact Nat.le_refl _) (Hold.lay_all rfl) (zeroC_one) (by rw [zeroC_len]; exact seaRow) ?_; clear HM2; intro w HM2; simp only [List.set_cons_zero] at HM2; replace HM2 := Lib.hid HM2)))

              refine bodyPost_ret (Hold.resultsCT HM2.out 0 rfl _ rfl rfl rfl (by rw [zeroC_len]; exact seaRow)) rfl ?_
              exact ⟨rfl, HM2.out.below⟩
          · have hd : ((q : Int) != (s.size : Int)) = true := by simp; omega
            have hY := HY.out.1
            have hE := HY.out.2
            rw [HRD.out, told_no _ _ _ _ _ _ (fun h => hqs h.1)] at hY hE
            obtain rfl : Y = zeroC := hY
            obtain rfl : E = 3 := hE
            clear HRD HY
            go_upto_region 14 with (fail)
            have HM2 := Lib.hid (HM.out.next HN.out.below)
            clear HM HN
            go_wp2_with ((first
              | (with_reducible refine Hold.build (t := 23) (parts := #[]) (cs := zeroC) rfl rfl ?_ ?_; focus (kernel_rfl))
              | (with_reducible refine Hold.store HM2.out 0 (v' := zeroC) rfl rfl rfl rfl rfl (by rw [Nat.zero_add]; exact Nat.le_refl _) (Hold.lay_all rfl) (zeroC_one) (by rw [zeroC_len]; exact seaRow) ?_; clear HM2; intro w HM2; simp only [List.set_cons_zero] at HM2; replace HM2 := Lib.hid HM2)))

            refine bodyPost_ret (Hold.resultsCT HM2.out 0 rfl _ rfl rfl rfl (by rw [zeroC_len]; exact seaRow)) rfl ?_
            exact ⟨rfl, HM2.out.below⟩
end Go.Proofs.Ytnglnocdffjnoaa.RSea
