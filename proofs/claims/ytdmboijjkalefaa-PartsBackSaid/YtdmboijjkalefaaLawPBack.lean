/-
  PartsBack: what is laid is read, to its end, and what is read of any bytes is laid so: for every list of numbers, every list of texts and every text the law answers true and changes nothing that was there. Condition: none.
-/
import Derived.Test.YtdmboijjkalefaaRows
import Derived.Test.YtdmboijjkalefaaPrtCmp
import Derived.Test.YtdmboijjkalefaaLawPOpen
import Derived.Deep.DeepCutAuto
namespace Go.Proofs.Ytdmboijjkalefaa.LawPBack
open Go.ChangeShapes Go.WideShapes Go.ChangeAt Go.RowKit Mur Lanes Prt
open Go.ChangeMaps (open_string shut_string)
set_option maxRecDepth 100000

theorem each_map {α β : Type} (f : α → β) (lay : β → Except Nat (List UInt8)) (g : α → Except Nat (List UInt8)) (hg : ∀ x, g x = lay (f x)) (l : List α) : each g l = each lay (l.map f) := by
  induction l with
  | nil => rfl
  | cons x l ih => rw [List.map_cons, each, each, ih, hg]
theorem layAll_map {α β : Type} (f : α → β) (lay : β → Except Nat (List UInt8)) (g : α → Except Nat (List UInt8)) (hg : ∀ x, g x = lay (f x)) (l : List α) : layAll g l = layAll lay (l.map f) := by
  rw [layAll, layAll, each_map f lay g hg, List.length_map]
theorem each_in {α : Type} (lay : α → Except Nat (List UInt8)) (Q : α → Prop) (hq : ∀ x a, lay x = .ok a → Q x) (l : List α) : ∀ b, each lay l = .ok b → ∀ z ∈ l, Q z := by
  induction l with
  | nil => intro b _ z hz; cases hz
  | cons x l ih =>
    intro b h z hz
    cases hx : lay x with
    | error e => rw [each_error lay x l e hx] at h; cases h
    | ok a =>
      rw [each_ok lay x l a hx] at h
      cases hl : each lay l with
      | error e => rw [hl] at h; cases h
      | ok c =>
        rcases List.mem_cons.1 hz with rfl | hz
        · exact hq _ _ hx
        · exact ih c hl z hz
theorem layAll_in {α : Type} (lay : α → Except Nat (List UInt8)) (Q : α → Prop) (hq : ∀ x a, lay x = .ok a → Q x) (l : List α) (b : List UInt8) (h : layAll lay l = .ok b) : l.length ≤ 255 ∧ ∀ z ∈ l, Q z := by
  unfold layAll at h
  split at h
  · cases h
  · rename_i hs
    cases hl : each lay l with
    | error e => rw [hl] at h; cases h
    | ok c => exact ⟨by omega, each_in lay Q hq l c hl⟩
theorem each_long {α : Type} (lay : α → Except Nat (List UInt8)) (k : Nat) (hq : ∀ x a, lay x = .ok a → a.length ≤ k) (l : List α) : ∀ b, each lay l = .ok b → b.length ≤ k * l.length := by
  induction l with
  | nil => intro b h; cases h; exact Nat.zero_le _
  | cons x l ih =>
    intro b h
    cases hx : lay x with
    | error e => rw [each_error lay x l e hx] at h; cases h
    | ok a =>
      rw [each_ok lay x l a hx] at h
      cases hl : each lay l with
      | error e => rw [hl] at h; cases h
      | ok c =>
        rw [hl] at h
        cases h
        have h1 := hq _ _ hx
        have h2 := ih c hl
        rw [List.length_append, List.length_cons, Nat.mul_succ]
        omega
theorem layAll_long {α : Type} (lay : α → Except Nat (List UInt8)) (k : Nat) (hq : ∀ x a, lay x = .ok a → a.length ≤ k) (l : List α) (b : List UInt8) (h : layAll lay l = .ok b) : b.length ≤ 1 + k * l.length := by
  unfold layAll at h
  split at h
  · cases h
  · cases hl : each lay l with
    | error e => rw [hl] at h; cases h
    | ok c =>
      rw [hl] at h
      cases h
      have := each_long lay k hq l c hl
      rw [List.length_append, high_length]
      omega
theorem each_err {α : Type} (lay : α → Except Nat (List UInt8)) (hq : ∀ x e, lay x = .error e → 1 ≤ e) (l : List α) : ∀ e, each lay l = .error e → 1 ≤ e := by
  induction l with
  | nil => intro e h; cases h
  | cons x l ih =>
    intro e h
    cases hx : lay x with
    | error y =>
      rw [each_error lay x l y hx] at h
      cases h
      exact hq _ _ hx
    | ok a =>
      rw [each_ok lay x l a hx] at h
      cases hl : each lay l with
      | error y =>
        rw [hl] at h
        cases h
        exact ih _ hl
      | ok c => rw [hl] at h; cases h
theorem layAll_err {α : Type} (lay : α → Except Nat (List UInt8)) (hq : ∀ x e, lay x = .error e → 1 ≤ e) (l : List α) (e : Nat) (h : layAll lay l = .error e) : 1 ≤ e := by
  unfold layAll at h
  split at h
  · cases h; omega
  · cases hl : each lay l with
    | error y =>
      rw [hl] at h
      cases h
      exact each_err lay hq l _ hl
    | ok c => rw [hl] at h; cases h
theorem readN_err {α : Type} (rd : Int → Except Nat (α × Nat)) (hq : ∀ p e, rd p = .error e → 1 ≤ e) (k : Nat) : ∀ p e, readN rd k p = .error e → 1 ≤ e := by
  induction k with
  | zero => intro p e h; cases h
  | succ k ih =>
    intro p e h
    cases hx : rd (p : Int) with
    | error y =>
      rw [readN_error rd k p y hx] at h
      cases h
      exact hq _ _ hx
    | ok r =>
      rw [readN_ok rd k p r.2 r.1 hx] at h
      cases hl : readN rd k r.2 with
      | error y =>
        rw [hl] at h
        cases h
        exact ih _ _ hl
      | ok c => rw [hl] at h; cases h
theorem readAll_err {α : Type} (rd : List UInt8 → Int → Except Nat (α × Nat)) (hq : ∀ s p e, rd s p = .error e → 1 ≤ e) (s : List UInt8) (p : Int) (e : Nat) (h : readAll rd s p = .error e) : 1 ≤ e := by
  unfold readAll at h
  cases hc : readHigh s p 1 with
  | error y =>
    rw [hc] at h
    cases h
    exact (readHigh_err _ _ _ _ hc).1
  | ok r =>
    rw [hc] at h
    exact readN_err (rd s) (hq s) r.1 r.2 e h
theorem errV_zero {α : Type} {r : Except Nat α} (h : errV r = 0) (he : ∀ e, r = .error e → 1 ≤ e) : ∃ x, r = .ok x := by
  cases r with
  | error e =>
    have h1 := he e rfl
    have h2 : (e : Int) = 0 := h
    omega
  | ok x => exact ⟨x, rfl⟩
theorem num_in (z : Int) (a : List UInt8) (h : num z = .ok a) : 0 ≤ z ∧ z < 1099511627776 := by
  unfold num at h
  split at h
  · cases h
  · omega
theorem str_in (s : ByteArray) (a : List UInt8) (h : strB s = .ok a) : s.size ≤ 6000 := by
  have hsl : s.data.toList.length = s.size := rfl
  unfold strB str at h
  split at h
  · cases h
  · omega
theorem nat_list (zs : List Int) (h : ∀ z ∈ zs, 0 ≤ z ∧ z < 1099511627776) : ∃ ns, zs = zl ns := by
  induction zs with
  | nil => exact ⟨[], rfl⟩
  | cons z zs ih =>
    obtain ⟨ns, rfl⟩ := ih fun y hy => h y (List.mem_cons_of_mem _ hy)
    have h0 := h z List.mem_cons_self
    exact ⟨z.toNat :: ns, by
      show z :: zl ns = ((z.toNat : Nat) : Int) :: zl ns
      rw [Int.toNat_of_nonneg h0.1]⟩
theorem text_list (ss : List ByteArray) : ss = tl (ss.map fun s => s.data.toList) := by
  rw [tl, List.map_map]
  exact (List.map_id' ss).symm.trans (List.map_congr_left fun x _ => rfl)
theorem layNat (ns : List Nat) : layAll num (zl ns) = layAll (fun n : Nat => num (n : Int)) ns := (layAll_map (fun n : Nat => (n : Int)) num _ (fun _ => rfl) ns).symm
theorem layTxt (sl : List (List UInt8)) : layAll strB (tl sl) = layAll str sl := (layAll_map (fun s : List UInt8 => tx s) strB str (fun _ => rfl) sl).symm

theorem nums_laid (zs : List Int) (h : errV (layAll num zs) = 0) : ∃ ns b, zs = zl ns ∧ layAll num zs = .ok b ∧ b.length ≤ 1276 ∧ readAll readNum (122 :: b) 1 = .ok (ns, 1 + b.length) := by
  obtain ⟨b, hb⟩ := errV_zero h (layAll_err num (fun x e he => (num_err x e he).1) zs)
  have hin := layAll_in num _ num_in zs b hb
  obtain ⟨ns, rfl⟩ := nat_list zs hin.2
  have hb2 := hb
  rw [layNat] at hb2
  have hr := layAll_read (fun n : Nat => num (n : Int)) readNum (fun x a u v h => num_read x a u v h) ns b [122] hb2
  refine ⟨ns, b, rfl, hb, ?_, hr⟩
  have hl := layAll_long num 5 (fun x a h => Nat.le_of_eq (num_length x a h)) (zl ns) b hb
  have := hin.1
  omega
theorem strs_laid (ss : List ByteArray) (h : errV (layAll strB ss) = 0) : ∃ sl b, ss = tl sl ∧ layAll strB ss = .ok b ∧ b.length ≤ 1530511 ∧ readAll readStr b 0 = .ok (sl, b.length) := by
  obtain ⟨b, hb⟩ := errV_zero h (layAll_err strB (fun x e he => (str_err x.data.toList e he).1) ss)
  have hin := layAll_in strB _ str_in ss b hb
  obtain ⟨sl, hsl⟩ : ∃ sl, ss = tl sl := ⟨_, text_list ss⟩
  subst hsl
  have hb2 := hb
  rw [layTxt] at hb2
  have hr := layAll_read str readStr str_read sl b [] hb2
  refine ⟨sl, b, rfl, hb, ?_, by simpa using hr⟩
  have hl := layAll_long strB 6002 (fun x a h => str_length _ a h) (tl sl) b hb
  have := hin.1
  omega
theorem nums_read (s : List UInt8) (h : errV (readAll readNum s 0) = 0) : ∃ ns q, readAll readNum s 0 = .ok (ns, q) ∧ layAll num (zl ns) = .ok (s.take q) ∧ q ≤ s.length ∧ (zl ns).length ≤ 255 ∧ ∀ z ∈ zl ns, -9223372036854775808 ≤ z ∧ z ≤ 9223372036854775807 := by
  obtain ⟨r, hr⟩ := errV_zero h (readAll_err readNum (fun s p e h => (readNum_err s p e h).1) s 0)
  obtain ⟨ns, q⟩ := r
  obtain ⟨h1, h2, h3⟩ := layAll_laid (fun n : Nat => num (n : Int)) readNum (fun s p q x h => num_laid s p q x h) s q ns hr
  rw [← layNat] at h1
  have hin := layAll_in num _ num_in _ _ h1
  exact ⟨ns, q, hr, h1, h2, hin.1, fun z hz => by have := hin.2 z hz; omega⟩
theorem strs_read (s : List UInt8) (h : errV (readAll readStr s 0) = 0) : ∃ sl q, readAll readStr s 0 = .ok (sl, q) ∧ layAll strB (tl sl) = .ok (s.take q) ∧ q ≤ s.length ∧ (tl sl).length ≤ 255 ∧ ∀ z ∈ tl sl, z.size ≤ 9223372036854775807 := by
  obtain ⟨r, hr⟩ := errV_zero h (readAll_err readStr (fun s p e h => (readStr_err s p e h).1) s 0)
  obtain ⟨sl, q⟩ := r
  obtain ⟨h1, h2, h3⟩ := layAll_laid str readStr str_laid s q sl hr
  rw [← layTxt] at h1
  have hin := layAll_in strB _ str_in _ _ h1
  exact ⟨sl, q, hr, h1, h2, hin.1, fun z hz => by have := hin.2 z hz; omega⟩
theorem take_cut (s : ByteArray) (n : Nat) : s.extract 0 n = tx (s.data.toList.take n) := by
  have := piece_cut s 0 n n (by omega)
  rw [List.drop_zero] at this
  exact this
theorem same_text (x : ByteArray) : (!(x.toList == x.toList)) = false := by simp
theorem int_neq (x : Int) : (x != x) = false := by simp

set_option maxHeartbeats 12800000 in
theorem walk (zs : List Int) (n : Nat) (a : Option Addr) (cap : Nat) (ss : List ByteArray) (m : Nat) (a2 : Option Addr) (cap2 : Nat) (s : ByteArray) (w : World) (hr : IntsR w a zs) (hn : zs.length = n) (hz : ∀ z ∈ zs, -9223372036854775808 ≤ z ∧ z ≤ 9223372036854775807)
    (hr2 : StrsR w a2 ss) (hm : ss.length = m) (hz2 : ∀ z ∈ ss, z.size ≤ 9223372036854775807) :
    Calls Try.prog 5 #[.slice a n cap, .slice a2 m cap2, .string s] w fun e w' => e = .returned (.bool true) ∧ Below w.heap.size w w' := by
  by_cases hg : 300 < n
  · have hd : decide (300 < (n : Int)) = true := decide_eq_true (by omega)
    have hd2 : decide (300 < n) = true := decide_eq_true hg
    clear hr hr2 hz hz2
    go_enter Try.func5, Try.ntmps5
    go_wp2_with fail
    refine (awake_any _).mono ?_
    rintro e w1 ⟨rfl, hb1⟩
    go_wp2
    go_ret
    exact ⟨rfl, hb1⟩
  · have hd : decide (300 < (n : Int)) = false := decide_eq_false (by omega)
    have hd2 : decide (300 < n) = false := decide_eq_false hg
    by_cases hg2 : 300 < m
    · have hd3 : decide (300 < (m : Int)) = true := decide_eq_true (by omega)
      have hd4 : decide (300 < m) = true := decide_eq_true hg2
      clear hr hr2 hz hz2
      go_enter Try.func5, Try.ntmps5
      go_wp2_with fail
      refine (awake_any _).mono ?_
      rintro e w1 ⟨rfl, hb1⟩
      go_wp2
      go_ret
      exact ⟨rfl, hb1⟩
    · have hd3 : decide (300 < (m : Int)) = false := decide_eq_false (by omega)
      have hd4 : decide (300 < m) = false := decide_eq_false hg2
      by_cases hg3 : 3000 < s.size
      · have hd5 : decide (3000 < (s.size : Int)) = true := decide_eq_true (by omega)
        have hd6 : decide (3000 < s.size) = true := decide_eq_true hg3
        clear hr hr2 hz hz2
        go_enter Try.func5, Try.ntmps5
        go_wp2_with fail
        refine (awake_any _).mono ?_
        rintro e w1 ⟨rfl, hb1⟩
        go_wp2
        go_ret
        exact ⟨rfl, hb1⟩
      · have hd5 : decide (3000 < (s.size : Int)) = false := decide_eq_false (by omega)
        have hd6 : decide (3000 < s.size) = false := decide_eq_false hg3
        obtain ⟨X, hX⟩ : ∃ X, X = layX (layAll num zs) := ⟨_, rfl⟩
        obtain ⟨E, hE⟩ : ∃ E, E = errV (layAll num zs) := ⟨_, rfl⟩
        obtain ⟨Y, hY⟩ : ∃ Y, Y = layX (layAll strB ss) := ⟨_, rfl⟩
        obtain ⟨F, hF⟩ : ∃ F, F = errV (layAll strB ss) := ⟨_, rfl⟩
        obtain ⟨L3, hL3⟩ : ∃ L, L = listV (readAll readNum s.data.toList 0) := ⟨_, rfl⟩
        obtain ⟨B3, hB3⟩ : ∃ B, B = posV (readAll readNum s.data.toList 0) := ⟨_, rfl⟩
        obtain ⟨E3, hE3⟩ : ∃ E, E = errV (readAll readNum s.data.toList 0) := ⟨_, rfl⟩
        obtain ⟨L4, hL4⟩ : ∃ L, L = listV (readAll readStr s.data.toList 0) := ⟨_, rfl⟩
        obtain ⟨B4, hB4⟩ : ∃ B, B = posV (readAll readStr s.data.toList 0) := ⟨_, rfl⟩
        obtain ⟨E4, hE4⟩ : ∃ E, E = errV (readAll readStr s.data.toList 0) := ⟨_, rfl⟩
        have RA := Lib.hid (fun (u : World) (hu : IntsR u a zs) => Prt.nums_any zs n a cap u X E hX hE hu hn (by omega) hz)
        have RB := Lib.hid (fun (u : World) (hu : StrsR u a2 ss) => Prt.strs_any ss m a2 cap2 u Y F hY hF hu hm (by omega) hz2)
        have RC := Lib.hid (fun u => readnums_any s 0 u L3 B3 E3 hL3 hB3 hE3 (by omega) (by omega) (by omega))
        have RD := Lib.hid (fun u => readstrs_any s 0 u L4 B4 E4 hL4 hB4 hE4 (by omega) (by omega) (by omega))
        have HR := Lib.hid (fun (u : World) (q : Below w.heap.size w u) => hr.below q)
        have HR2 := Lib.hid (fun (u : World) (q : Below w.heap.size w u) => hr2.below q)
        have HX := Lib.hid hX
        have HE := Lib.hid hE
        have HY := Lib.hid hY
        have HF := Lib.hid hF
        have HL3 := Lib.hid hL3
        have HB3 := Lib.hid hB3
        have HE3 := Lib.hid hE3
        have HL4 := Lib.hid hL4
        have HB4 := Lib.hid hB4
        have HE4 := Lib.hid hE4
        have HN := Lib.hid hn
        have HM := Lib.hid hm
        have HW0 := Lib.hid (Below.refl w.heap.size w)
        clear hr hr2 hn hm hz hz2 hX hE hY hF hL3 hB3 hE3 hL4 hB4 hE4
        go_enter Try.func5, Try.ntmps5
        go_wp2_with fail
        refine (RA.out _ (HR.out _ HW0.out)).mono ?_
        rintro e w1 ⟨rfl, hb⟩
        have HW1 := Lib.hid hb
        clear hb HW0 RA
        go_upto_if 47 with (fail)
        go_cut [] (fun wc => Below w.heap.size w wc)
        case first =>
          by_cases hE0 : E = 0
          · obtain ⟨ns, b, hzs, hlay, hbl, hrd⟩ := nums_laid zs (by rw [← HE.out, hE0])
            have hXb : X = tx b := by rw [HX.out, hlay]; rfl
            have hXs : X.size = b.length := by rw [hXb, tx_size]
            obtain ⟨Z, hZ⟩ : ∃ Z : ByteArray, Z = tx (122 :: b) := ⟨_, rfl⟩
            have hap : (⟨#[122]⟩ : ByteArray) ++ X = Z := by rw [hZ, hXb]; exact tx_append [122] b
            have R2 := Lib.hid (show ∀ u, Calls Try.prog 19 #[.string Z, .int .i64 1] u fun e w' => ∃ ao c, e = .returned (.tuple #[.slice ao ns.length c, .int .i64 (1 + (X.size : Int)), .int .i64 0]) ∧ IntsR w' ao (zl ns) ∧ Below u.heap.size u w' from fun u => by
              have hd : Z.data.toList = 122 :: b := by rw [hZ]
              have hZs : Z.size ≤ 1000000000 := by rw [hZ]; show (122 :: b).length ≤ 1000000000; rw [List.length_cons]; omega
              exact readnums_any Z 1 u ns (1 + (X.size : Int)) 0 (by rw [hd, hrd]; rfl) (by rw [hd, hrd, hXs]; show _ = ((1 + b.length : Nat) : Int); omega) (by rw [hd, hrd]; rfl) (by omega) (by omega) hZs)
            have hbig : ¬ 9223372036854775807 < (⟨#[122]⟩ : ByteArray).size + X.size := by
              have : (⟨#[122]⟩ : ByteArray).size = 1 := rfl
              omega
            have hbig2 : ¬ 9223372036854775807 < 1 + X.size := by omega
            have hXs2 : X.size ≤ 1276 := by omega
            have hq : ((1 + (X.size : Int)) != (1 + (X.size : Int))) = false := by simp
            have HLN := Lib.hid (show ns.length = zs.length by rw [hzs, zl_length])
            have HZS := Lib.hid hzs
            subst hE0
            clear hlay hrd hXb hXs hZ hzs hbl
            go_wp2_with fail
            refine (R2.out _).mono ?_
            rintro e w2 ⟨ao, c, rfl, hi, hb⟩
            have HW2 := Lib.hid (HW1.out.trans (hb.mono HW1.out.size))
            have HI := Lib.hid hi
            clear hb hi hap hbig hbig2
            go_wp2_with fail
            refine (ints_any zs ns.length n _ _ _ _ _ HLN.out HN.out.symm (by have := HLN.out; have := HN.out; omega) (by rw [HZS.out]; exact HI.out) (HR.out _ HW2.out)).mono ?_
            rintro e w3 ⟨rfl, hb⟩
            have HW3 := Lib.hid (HW2.out.trans (hb.mono HW2.out.size))
            clear hb
            go_wp2
            go_meet
            case rel => exact HW3.out
          · have hne : (E == 0) = false := by simp [hE0]
            have hne2 : ((E : Int) == 0) = false := by simp [hE0]
            go_wp2
            go_meet
            case rel => exact HW1.out
        case rest =>
          have HW2 := Lib.hid hcut
          clear hcut HW1
          go_wp2_with fail
          refine (RB.out _ (HR2.out _ HW2.out)).mono ?_
          rintro e w3 ⟨rfl, hb⟩
          have HW3 := Lib.hid (HW2.out.trans (hb.mono HW2.out.size))
          clear hb HW2 RB
          go_upto_if 76 with (fail)
          go_cut [] (fun wc => Below w.heap.size w wc)
          case first =>
            by_cases hE0 : F = 0
            · obtain ⟨sl, b, hzs, hlay, hbl, hrd⟩ := strs_laid ss (by rw [← HF.out, hE0])
              have hXb : Y = tx b := by rw [HY.out, hlay]; rfl
              have hXs : Y.size = b.length := by rw [hXb, tx_size]
              have R2 := Lib.hid (show ∀ u, Calls Try.prog 21 #[.string Y, .int .i64 0] u fun e w' => ∃ ao c, e = .returned (.tuple #[.slice ao sl.length c, .int .i64 (Y.size : Int), .int .i64 0]) ∧ StrsR w' ao (tl sl) ∧ Below u.heap.size u w' from fun u => by
                have hd : Y.data.toList = b := by rw [hXb]
                exact readstrs_any Y 0 u sl (Y.size : Int) 0 (by rw [hd, hrd]; rfl) (by rw [hd, hrd, hXs]; rfl) (by rw [hd, hrd]; rfl) (by omega) (by omega) (by omega))
              have hq : ((Y.size : Int) != (Y.size : Int)) = false := by simp
              have HLN := Lib.hid (show sl.length = ss.length by rw [hzs, tl_length])
              have HZS := Lib.hid hzs
              subst hE0
              clear hlay hrd hXb hXs hzs hbl
              go_wp2_with fail
              refine (R2.out _).mono ?_
              rintro e w4 ⟨ao, c, rfl, hi, hb⟩
              have HW4 := Lib.hid (HW3.out.trans (hb.mono HW3.out.size))
              have HI := Lib.hid hi
              clear hb hi
              go_wp2_with fail
              refine (texts_any ss sl.length m _ _ _ _ _ HLN.out HM.out.symm (by have := HLN.out; have := HM.out; omega) (by rw [HZS.out]; exact HI.out) (HR2.out _ HW4.out)).mono ?_
              rintro e w5 ⟨rfl, hb⟩
              have HW5 := Lib.hid (HW4.out.trans (hb.mono HW4.out.size))
              clear hb
              go_wp2
              go_meet
              case rel => exact HW5.out
            · have hne : (F == 0) = false := by simp [hE0]
              have hne2 : ((F : Int) == 0) = false := by simp [hE0]
              go_wp2
              go_meet
              case rel => exact HW3.out
          case rest =>
            have HW4 := Lib.hid hcut
            clear hcut HW3
            go_wp2_with fail
            refine (RC.out _).mono ?_
            rintro e w5 ⟨a5, c5, rfl, hi, hb⟩
            have HW5 := Lib.hid (HW4.out.trans (hb.mono HW4.out.size))
            have HI := Lib.hid hi
            clear hb hi HW4 RC
            go_upto_if 104 with (fail)
            go_cut [] (fun wc => Below w.heap.size w wc)
            case first =>
              by_cases hE0 : E3 = 0
              · obtain ⟨ns, q, hrd, hlay, hql, hln, hbd⟩ := nums_read s.data.toList (by rw [← HE3.out, hE0])
                have hLe : L3 = ns := by rw [HL3.out, hrd]; rfl
                have hBe : B3 = (q : Int) := by rw [HB3.out, hrd]; rfl
                obtain ⟨K, hK⟩ : ∃ K : ByteArray, K = tx (s.data.toList.take q) := ⟨_, rfl⟩
                have hqs : q ≤ s.size := hql
                subst hLe
                rw [zl_length] at hln
                have R2 := Lib.hid (fun (a : Option Addr) (c : Nat) (u : World) (hu : IntsR u a (zl L3)) => Prt.nums_any (zl L3) L3.length a c u K 0 (by rw [hlay]; exact hK) (by rw [hlay]; rfl) hu (zl_length _) (by omega) hbd)
                have hcut : ∀ u, (Instr.slice 9 (.string s) none (some (.int .i64 (q : Int))) none).run Try.prog u = .ok (.string K) u := fun u => by
                  rw [hK, ← take_cut s q]
                  exact run_slice_string_h (P := Try.prog) u 9 s Try.underlying9 .i64 (q : Int) (by omega) (by omega)
                have hst := same_text K
                have hd7 : decide ((q : Int) < 0) = false := decide_eq_false (by omega)
                have hd8 : decide ((s.size : Int) < (q : Int)) = false := decide_eq_false (by omega)
                have hd9 : decide (s.size < q) = false := decide_eq_false (by omega)
                subst hE0
                subst hBe
                clear hrd hlay hK hbd hql
                go_wp2_with fail
                refine (R2.out _ _ _ HI.out).mono ?_
                rintro e w6 ⟨rfl, hb⟩
                have HW6 := Lib.hid (HW5.out.trans (hb.mono HW5.out.size))
                clear hb
                go_wp2
                go_meet
                case rel => exact HW6.out
              · have hne : (E3 == 0) = false := by simp [hE0]
                have hne2 : ((E3 : Int) == 0) = false := by simp [hE0]
                go_wp2
                go_meet
                case rel => exact HW5.out
            case rest =>
              have HW6 := Lib.hid hcut
              clear hcut HW5
              go_wp2_with fail
              refine (RD.out _).mono ?_
              rintro e w7 ⟨a7, c7, rfl, hi, hb⟩
              have HW7 := Lib.hid (HW6.out.trans (hb.mono HW6.out.size))
              have HI7 := Lib.hid hi
              clear hb hi HW6 RD
              by_cases hE0 : E4 = 0
              · obtain ⟨sl, q, hrd, hlay, hql, hln, hbd⟩ := strs_read s.data.toList (by rw [← HE4.out, hE0])
                have hLe : L4 = sl := by rw [HL4.out, hrd]; rfl
                have hBe : B4 = (q : Int) := by rw [HB4.out, hrd]; rfl
                obtain ⟨K, hK⟩ : ∃ K : ByteArray, K = tx (s.data.toList.take q) := ⟨_, rfl⟩
                have hqs : q ≤ s.size := hql
                subst hLe
                rw [tl_length] at hln
                have R2 := Lib.hid (fun (a : Option Addr) (c : Nat) (u : World) (hu : StrsR u a (tl L4)) => Prt.strs_any (tl L4) L4.length a c u K 0 (by rw [hlay]; exact hK) (by rw [hlay]; rfl) hu (tl_length _) (by omega) hbd)
                have hcut : ∀ u, (Instr.slice 9 (.string s) none (some (.int .i64 (q : Int))) none).run Try.prog u = .ok (.string K) u := fun u => by
                  rw [hK, ← take_cut s q]
                  exact run_slice_string_h (P := Try.prog) u 9 s Try.underlying9 .i64 (q : Int) (by omega) (by omega)
                have hd7 : decide (0 ≤ (q : Int)) = true := decide_eq_true (by omega)
                have hd8 : decide ((q : Int) ≤ (s.size : Int)) = true := decide_eq_true (by omega)
                have hd9 : decide (q ≤ s.size) = true := decide_eq_true hqs
                subst hE0
                subst hBe
                clear hrd hlay hK hbd hql
                go_wp2_with fail
                refine (R2.out _ _ _ HI7.out).mono ?_
                rintro e w8 ⟨rfl, hb⟩
                have HW8 := Lib.hid (HW7.out.trans (hb.mono HW7.out.size))
                clear hb
                go_wp2_with fail
                refine (awake_any _).mono ?_
                rintro e w9 ⟨rfl, hb⟩
                have HW9 := Lib.hid (HW8.out.trans (hb.mono HW8.out.size))
                clear hb
                go_wp2
                go_ret
                exact ⟨rfl, HW9.out⟩
              · have hne : (E4 == 0) = false := by simp [hE0]
                have hne2 : ((E4 : Int) == 0) = false := by simp [hE0]
                go_wp2_with fail
                refine (awake_any _).mono ?_
                rintro e w8 ⟨rfl, hb⟩
                have HW8 := Lib.hid (HW7.out.trans (hb.mono HW7.out.size))
                clear hb
                go_wp2
                go_ret
                exact ⟨rfl, HW8.out⟩

theorem own : ownKnob Try.prog.godebug = none := by kernel_rfl
theorem laidOut : laidOutB Try.prog = true := by kernel_rfl

theorem lifted (os : Os) (started : os.Started) (H : Type) (enc : TypeId × Value → H) :
    ReturnsInHanded {} Try.checked os 5 .any (Rows.partsBackSpec.pre6 enc Try.prog Try.f5 Rows.partsBackRow.domain false) (Rows.partsBackSpec.post enc Try.prog Try.f5 false true false false) := by
  refine returnsInHanded_of_change (C := Try.checked) own started (by kernel_rfl) Try.func5
    (ChangeSpec.witness6 (enc := enc) (C := Try.checked) false ⟨#[], #[.slice none 0 0, .slice none 0 0, .string ByteArray.empty], []⟩ 8 (by kernel_rfl) (by kernel_rfl) (by kernel_rfl) (by kernel_rfl)) ?_
  intro W base args ds gs before hval0 hW hcnd _
  have hval : ∀ (j : Nat) t v, Try.f5.params[j]? = some t → args[j]? = some v → Value.okWide Try.prog W .any base t v := hval0
  have hW' := hW
  obtain ⟨p, q, hA0, hV, rfl, hfz, hnd⟩ := hW
  have hA : DataW.TrodAll enc Try.prog W 0 (fun _ => true) true Try.f5.params.toList args.toList ds p := hA0
  rw [Try.params5] at hA hval
  obtain ⟨v0, vs0, d0, ds0, p0, q0, hargs, rfl, rfl, h0, r0⟩ := trodAll_cons hA
  obtain ⟨v1, vs1, d1, ds1, p1, q1, rfl, rfl, rfl, h1, r1⟩ := trodAll_cons r0
  obtain ⟨v2, vs2, d2, ds2, p2, q2, rfl, rfl, rfl, h2, r2⟩ := trodAll_cons r1
  obtain ⟨rfl, rfl, rfl⟩ := trodAll_nil r2
  obtain rfl : args = #[v0, v1, v2] := by cases args; simp_all
  obtain ⟨rfl, rfl⟩ := trodVars_none hV
  obtain ⟨a0, len0, cap0, rfl⟩ := okWide_slice Try.underlying22 (hval 0 22 v0 rfl rfl)
  have k0 := h0
  have lt0 : ∀ x ∈ p0, x.block < W.heap.size := by obtain ⟨m, hm⟩ := k0; exact DataW.trod_lt m _ _ _ hm
  obtain ⟨z0, w0, x0, y0, u0⟩ := ints_came h0
  obtain ⟨a1, len1, cap1, rfl⟩ := okWide_slice Try.underlying23 (hval 1 23 v1 rfl rfl)
  have k1 := h1
  have lt1 : ∀ x ∈ p1, x.block < W.heap.size := by obtain ⟨m, hm⟩ := k1; exact DataW.trod_lt m _ _ _ hm
  obtain ⟨z1, w1, x1, y1, u1⟩ := strs_came h1
  obtain ⟨a2, rfl, rfl, rfl, w2⟩ := open_string Try.underlying9 (hval 2 9 v2 rfl rfl) h2
  clear hA0 hval0
  refine (walk z0 len0 a0 cap0 z1 len1 a1 cap1 a2 W w0 x0 u0 w1 x1 u1).mono fun e W' ⟨he, bel⟩ => ?_
  subst he
  exact ⟨_, rfl, _, _, _, [], _, [], hW', trodAll_mk1 (shut_bool Try.underlying4 _), (trodAll_cons_mk (Below.trod laidOut (by kernel_rfl) (of_decide_eq_true (by kernel_rfl)) k0 bel lt0) (trodAll_cons_mk (Below.trod laidOut (by kernel_rfl) (of_decide_eq_true (by kernel_rfl)) k1 bel lt1) (trodAll_cons_mk (shut_string Try.underlying9 w2) trodAll_mk0))), rfl, bel.frame _, fun h => by cases h⟩

theorem over : Rows.partsBackRow.holds Try.pinned (OpenSpec.ofChange Rows.partsBackSpec) :=
  OpenClaim.holds_of_wide 5 Try.f5 rfl rfl rfl rfl rfl rfl rfl ⟨rfl, rfl, rfl, rfl, rfl⟩ rfl rfl rfl rfl rfl (by kernel_rfl) Try.func5 (by kernel_rfl)
    (of_decide_eq_true (by kernel_rfl)) (by unfold Func.isWrapper; first | (rw [if_pos (by decide +kernel)]; kernel_rfl) | (rw [if_neg (by decide +kernel)]; exact ⟨rfl, rfl⟩))
    (fun os started H enc _ => lifted os started H enc)

theorem proved : Rows.PartsBackSaid := over
#print axioms proved
end Go.Proofs.Ytdmboijjkalefaa.LawPBack
