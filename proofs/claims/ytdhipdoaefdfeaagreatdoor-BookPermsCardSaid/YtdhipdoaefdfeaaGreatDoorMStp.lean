/-
  Several texts as one (Stp, StpA, StpB, StpC, StpD, StpE). The plain mathematics of package stamp: signers' seeds and rooms, public keys, signatures and whether one is accepted, signers kept as bytes and what is loaded, as functions on lists of bytes. Nothing here speaks of a program: no condition but those that each lemma names. numbered, roomOf, leaves, within, Left, Long and Use of package stamp answer what the plain mathematics of the text Stp says, and leave all memory that was there as it was. Conditions: a Seed has no more than 2^45 bytes; numbers of leaves fit into an int; the constant table of package digest lies as the program's text lays it. Public, told and leafOf of package stamp answer what the plain mathematics of the text Stp says, and leave all memory that was there as it was. Conditions: a Seed has no more than 2^34 bytes, a text no more than 2^38; the constant table of package digest lies as the program's text lays it. Make of package stamp answers what the plain mathematics of the text Stp says, and leaves all memory that was there as it was. Conditions: a seed has no more than 2^45 bytes; the constant table of package digest lies as the program's text lays it. Sign of package stamp answers what the plain mathematics of the text Stp says, and leaves all memory that was there as it was. Conditions: a Seed has no more than 2^34 bytes, a text no more than 2^38; how many leaves are used fits into an int; the constant table of package digest lies as the program's text lays it. Check of package stamp answers what the plain mathematics of the text Stp says, and leaves all memory that was there as it was. Conditions: the text has no more than 2^38 bytes; the constant table of package digest lies as the program's text lays it.
-/
import Derived.Test.YtdhipdoaefdfeaaGreatDoorMGrv
import Derived.Test.YtdhipdoaefdfeaaGreatDoorMKed
import Derived.Test.YtdhipdoaefdfeaaGreatDoorMChn
import Derived.Test.YtdhipdoaefdfeaaGreatDoorMWk
import Derived.IntWalk
import Derived.BigQuiet
import Derived.Deep.RegionHeld3
namespace Go.Proofs.YtdhipdoaefdfeaaGreatDoor.Stp
open Go.RowKit Mur Sha Chn Grv

def signerT : List UInt8 := [115, 105, 103, 110, 101, 114]
def roomT : List UInt8 := [114, 111, 111, 109]
def toldT : List UInt8 := [116, 111, 108, 100]
def keepT : List UInt8 := [107, 101, 101, 112]

def seedOf (seed : List UInt8) : List UInt8 := Ked.derive seed 32 [signerT]
theorem seedOf_length (seed : List UInt8) : (seedOf seed).length = 32 := Ked.expand_length _ _ _ (by omega)
def roomOf (seed : List UInt8) : List UInt8 := Ked.derive seed 8 [roomT]
theorem roomOf_length (seed : List UInt8) : (roomOf seed).length = 8 := Ked.expand_length _ _ _ (by omega)
def pub (N H : Nat) (seed : List UInt8) : List UInt8 := roomOf seed ++ node N seed (roomOf seed) H 0
theorem pub_length (N H : Nat) (seed : List UInt8) (h : N ≤ 32) : (pub N H seed).length = 8 + N := by
  rw [pub, List.length_append, roomOf_length, node_length _ _ _ _ _ h]
def long (N H : Nat) : Nat := 2 + N * (2 * N + 3 + H)
theorem long_split (N H : Nat) : long N H = 2 + N * (2 * N + 3) + N * H := by
  unfold long
  rw [Nat.mul_add N (2 * N + 3) H]
  omega
/-- What a leaf signs of a text. -/
def says (N : Nat) (room : List UInt8) (leaf : Int) (msg : List UInt8) : List UInt8 := value N [toldT, room, num leaf 2, msg]
theorem says_length (N : Nat) (room : List UInt8) (leaf : Int) (msg : List UInt8) (h : N ≤ 32) : (says N room leaf msg).length = N := value_length N _ h
def signature (N H : Nat) (seed : List UInt8) (leaf : Nat) (msg : List UInt8) : List UInt8 :=
  num (leaf : Int) 2 ++ sign N seed (roomOf seed) (leaf : Int) (says N (roomOf seed) (leaf : Int) msg) ++ path N H seed (roomOf seed) leaf
theorem signature_length (N H : Nat) (seed : List UInt8) (leaf : Nat) (msg : List UInt8) (h : N ≤ 32) : (signature N H seed leaf msg).length = long N H := by
  rw [signature, List.length_append, List.length_append, num_length, sign_length _ _ _ _ _ h, path_length _ _ _ _ _ h, long_split]
/-- The number that the first two bytes say. -/
def leafNum (s : List UInt8) : Nat := (s.getD 0 0).toNat * 256 + (s.getD 1 0).toNat
theorem leafNum_lt (s : List UInt8) : leafNum s < 65536 := by
  unfold leafNum
  have h1 := (s.getD 0 0).toNat_lt
  have h2 := (s.getD 1 0).toNat_lt
  omega
theorem low64_nat (n : Nat) (h : n < 18446744073709551616) : low64 (n : Int) = n := by unfold low64; omega
theorem num_two (n : Nat) (h : n < 65536) : num (n : Int) 2 = [UInt8.ofNat (n / 256), UInt8.ofNat n] := by
  unfold num
  rw [low64_nat n (by omega)]
  simp [Lanes.high, List.range, List.range.loop]
theorem num_one (n : Nat) (h : n < 65536) : num (n : Int) 1 = [UInt8.ofNat n] := by
  unfold num
  rw [low64_nat n (by omega)]
  simp [Lanes.high, List.range, List.range.loop]
theorem leafNum_num (n : Nat) (h : n < 65536) (r : List UInt8) : leafNum (num (n : Int) 2 ++ r) = n := by
  rw [num_two n h]
  unfold leafNum
  simp
  omega
/-- Whether some bytes are a signature of a text, by a public key. -/
def check (N H : Nat) (p msg s : List UInt8) : Bool :=
  decide (p.length = 8 + N ∧ s.length = long N H ∧ leafNum s < 2 ^ H ∧
    climb N (p.take 8) (leafNum s) (found N (p.take 8) (leafNum s : Int) ((s.drop 2).take (N * (2 * N + 3))) (says N (p.take 8) (leafNum s : Int) msg)) (s.drop (2 + N * (2 * N + 3))) H = p.drop 8)
theorem cut_three {α : Type} (a b c : List α) (i j : Nat) (hi : a.length = i) (hj : b.length = j) : ((a ++ b ++ c).drop i).take j = b ∧ (a ++ b ++ c).drop (i + j) = c := by
  subst hi hj
  constructor
  · rw [List.append_assoc, List.drop_left, List.take_left]
  · rw [← List.length_append, List.drop_left]
/-- What is signed is accepted. -/
theorem check_signature (N H : Nat) (seed : List UInt8) (leaf : Nat) (msg : List UInt8) (hN : N ≤ 32) (hH : H ≤ 8) (hl : leaf < 2 ^ H) : check N H (pub N H seed) msg (signature N H seed leaf msg) = true := by
  have h8 : 2 ^ H ≤ 256 := Nat.pow_le_pow_right (by omega) hH
  have e1 : (pub N H seed).take 8 = roomOf seed := by rw [pub, List.take_append_of_le_length (by rw [roomOf_length]; omega), List.take_of_length_le (by rw [roomOf_length]; omega)]
  have e2 : (pub N H seed).drop 8 = node N seed (roomOf seed) H 0 := by
    rw [pub, List.drop_append_of_le_length (by rw [roomOf_length]; omega), List.drop_of_length_le (by rw [roomOf_length]; omega), List.nil_append]
  have e3 : leafNum (signature N H seed leaf msg) = leaf := by rw [signature, List.append_assoc]; exact leafNum_num leaf (by omega) _
  obtain ⟨e4, e5⟩ := cut_three (num (leaf : Int) 2) (sign N seed (roomOf seed) (leaf : Int) (says N (roomOf seed) (leaf : Int) msg)) (path N H seed (roomOf seed) leaf) 2 (N * (2 * N + 3)) (num_length _ _) (sign_length _ _ _ _ _ hN)
  unfold check
  rw [e1, e2, e3, signature, e4, e5, found_sign _ _ _ _ _ hN, climb_path N H seed (roomOf seed) leaf hN H (Nat.le_refl _), Nat.div_eq_of_lt hl]
  exact decide_eq_true ⟨pub_length N H seed hN, signature_length N H seed leaf msg hN, hl, rfl⟩

/-- The bytes ahead of the tag. -/
def head (N H next : Nat) (seed : List UInt8) : List UInt8 := num (N : Int) 1 ++ num (H : Int) 1 ++ num (next : Int) 2 ++ num (seed.length : Int) 1 ++ seed
def tagOf (l : List UInt8) : List UInt8 := value 4 [keepT, l]
theorem tagOf_length (l : List UInt8) : (tagOf l).length = 4 := value_length 4 _ (by omega)
def kept (N H next : Nat) (seed : List UInt8) : List UInt8 := head N H next seed ++ tagOf (head N H next seed)
theorem head_length (N H next : Nat) (seed : List UInt8) : (head N H next seed).length = 5 + seed.length := by
  simp only [head, List.length_append, num_length]
theorem kept_length (N H next : Nat) (seed : List UInt8) : (kept N H next seed).length = 9 + seed.length := by
  rw [kept, List.length_append, head_length, tagOf_length]; omega
/-- Which signers can be kept. -/
def Keeps (n h next : Int) (len : Nat) : Prop := Right n h ∧ 0 ≤ next ∧ next ≤ 2 ^ h.toNat ∧ len ≤ 200
instance (n h next : Int) (len : Nat) : Decidable (Keeps n h next len) := by unfold Keeps; infer_instance
/-- What stands in a head. -/
def byteAt (l : List UInt8) (i : Nat) : Nat := (l.getD i 0).toNat
theorem byteAt_lt (l : List UInt8) (i : Nat) : byteAt l i < 256 := (l.getD i 0).toNat_lt
def bodyOf (s : List UInt8) : List UInt8 := s.take (s.length - 4)
def nextOf (b : List UInt8) : Nat := leafNum (b.drop 2)
theorem head_eq (N H next : Nat) (seed : List UInt8) (hN : N < 256) (hH : H < 256) (hn : next < 65536) : head N H next seed = UInt8.ofNat N :: UInt8.ofNat H :: UInt8.ofNat (next / 256) :: UInt8.ofNat next :: num (seed.length : Int) 1 ++ seed := by
  rw [head, num_one N (by omega), num_one H (by omega), num_two next hn]
  rfl
/-- A head is made again of what stands in it, just if the length that it tells is the Seed's. -/
theorem head_again (b : List UInt8) (h5 : 5 ≤ b.length) (hl : b.length < 65536) : head (byteAt b 0) (byteAt b 1) (nextOf b) (b.drop 5) = b ↔ byteAt b 4 = (b.drop 5).length % 256 := by
  match b, h5 with
  | b0 :: b1 :: b2 :: b3 :: b4 :: s, _ =>
    have g0 := b0.toNat_lt
    have g1 := b1.toNat_lt
    have g2 := b2.toNat_lt
    have g3 := b3.toNat_lt
    have g4 := b4.toNat_lt
    have hs : s.length < 65536 := by simp only [List.length_cons] at hl; omega
    have en : nextOf (b0 :: b1 :: b2 :: b3 :: b4 :: s) = b2.toNat * 256 + b3.toNat := rfl
    have e4 : byteAt (b0 :: b1 :: b2 :: b3 :: b4 :: s) 4 = b4.toNat := rfl
    have es : (b0 :: b1 :: b2 :: b3 :: b4 :: s).drop 5 = s := rfl
    rw [en, es, e4, head_eq _ _ _ _ (byteAt_lt _ _) (byteAt_lt _ _) (by omega), num_one _ hs]
    have q0 : UInt8.ofNat (byteAt (b0 :: b1 :: b2 :: b3 :: b4 :: s) 0) = b0 := UInt8.ofNat_toNat
    have q1 : UInt8.ofNat (byteAt (b0 :: b1 :: b2 :: b3 :: b4 :: s) 1) = b1 := UInt8.ofNat_toNat
    have q2 : UInt8.ofNat ((b2.toNat * 256 + b3.toNat) / 256) = b2 := by rw [show (b2.toNat * 256 + b3.toNat) / 256 = b2.toNat by omega]; exact UInt8.ofNat_toNat
    have q3 : UInt8.ofNat (b2.toNat * 256 + b3.toNat) = b3 := by
      apply UInt8.toNat_inj.1
      rw [UInt8.toNat_ofNat']
      omega
    rw [q0, q1, q2, q3]
    have q4 : UInt8.ofNat s.length = b4 ↔ b4.toNat = s.length % 256 := by
      rw [← UInt8.toNat_inj, UInt8.toNat_ofNat']
      omega
    rw [← q4]
    simp
/-- Which bytes are loaded. -/
def Loads (s : List UInt8) : Prop := byteAt (bodyOf s) 4 = ((bodyOf s).drop 5).length ∧ Keeps (byteAt (bodyOf s) 0) (byteAt (bodyOf s) 1) (nextOf (bodyOf s)) ((bodyOf s).drop 5).length
instance (s : List UInt8) : Decidable (Loads s) := by unfold Loads; infer_instance
/-- What is kept of what is loaded is the same bytes, if their tag is right. -/
theorem kept_again (s : List UInt8) (h9 : 9 ≤ s.length) (ht : s.drop (s.length - 4) = tagOf (bodyOf s)) (hk : Keeps (byteAt (bodyOf s) 0) (byteAt (bodyOf s) 1) (nextOf (bodyOf s)) ((bodyOf s).drop 5).length) :
    kept (byteAt (bodyOf s) 0) (byteAt (bodyOf s) 1) (nextOf (bodyOf s)) ((bodyOf s).drop 5) = s ↔ Loads s := by
  have hl : (bodyOf s).length = s.length - 4 := by unfold bodyOf; rw [List.length_take]; omega
  have hd : ((bodyOf s).drop 5).length = (bodyOf s).length - 5 := List.length_drop
  have h200 := hk.2.2.2
  have hb := head_again (bodyOf s) (by omega) (by omega)
  have e : s = bodyOf s ++ tagOf (bodyOf s) := by rw [← ht]; exact (List.take_append_drop _ _).symm
  have hm : ((bodyOf s).drop 5).length % 256 = ((bodyOf s).drop 5).length := Nat.mod_eq_of_lt (by omega)
  rw [hm] at hb
  constructor
  · intro h
    refine ⟨hb.1 ?_, hk⟩
    have h2 := congrArg (List.take (s.length - 4)) h
    rw [kept, List.take_append_of_le_length (by rw [head_length]; omega), List.take_of_length_le (by rw [head_length]; omega)] at h2
    exact h2
  · intro h
    have h2 := hb.2 h.1
    rw [kept, h2]
    exact e.symm
/-- What is kept is loaded. -/
theorem load_kept (N H next : Nat) (seed : List UInt8) (hk : Keeps (N : Int) (H : Int) (next : Int) seed.length) :
    bodyOf (kept N H next seed) = head N H next seed ∧ (kept N H next seed).drop ((kept N H next seed).length - 4) = tagOf (head N H next seed) ∧
    byteAt (head N H next seed) 0 = N ∧ byteAt (head N H next seed) 1 = H ∧ nextOf (head N H next seed) = next ∧ byteAt (head N H next seed) 4 = seed.length ∧ (head N H next seed).drop 5 = seed ∧ Loads (kept N H next seed) := by
  obtain ⟨⟨h1, h2, h3, h4⟩, h5, h6, h7⟩ := hk
  have h8 : 2 ^ H ≤ 256 := Nat.pow_le_pow_right (by omega) (show H ≤ 8 by omega)
  have h9 : next ≤ 256 := by
    have e : ((2 : Int) ^ (H : Int).toNat) = ((2 ^ H : Nat) : Int) := by rw [Int.toNat_natCast, Int.natCast_pow]; rfl
    rw [e] at h6
    omega
  have e1 : bodyOf (kept N H next seed) = head N H next seed := by
    unfold bodyOf
    rw [kept_length, kept, List.take_append_of_le_length (by rw [head_length]; omega), List.take_of_length_le (by rw [head_length]; omega)]
  have e2 : (kept N H next seed).drop ((kept N H next seed).length - 4) = tagOf (head N H next seed) := by
    rw [kept_length, kept, List.drop_append_of_le_length (by rw [head_length]; omega), List.drop_of_length_le (by rw [head_length]; omega), List.nil_append]
  have eh := head_eq N H next seed (by omega) (by omega) (by omega)
  rw [num_one seed.length (by omega)] at eh
  have b0 : byteAt (head N H next seed) 0 = N := by rw [eh]; show (UInt8.ofNat N).toNat = N; rw [UInt8.toNat_ofNat']; omega
  have b1 : byteAt (head N H next seed) 1 = H := by rw [eh]; show (UInt8.ofNat H).toNat = H; rw [UInt8.toNat_ofNat']; omega
  have b4 : byteAt (head N H next seed) 4 = seed.length := by rw [eh]; show (UInt8.ofNat seed.length).toNat = _; rw [UInt8.toNat_ofNat']; omega
  have bn : nextOf (head N H next seed) = next := by
    rw [eh]
    show (UInt8.ofNat (next / 256)).toNat * 256 + (UInt8.ofNat next).toNat = next
    rw [UInt8.toNat_ofNat', UInt8.toNat_ofNat']
    omega
  have bs : (head N H next seed).drop 5 = seed := by rw [eh]; rfl
  refine ⟨e1, e2, b0, b1, bn, b4, bs, ?_⟩
  unfold Loads
  rw [e1, b0, b1, bn, b4, bs]
  exact ⟨rfl, ⟨h1, h2, h3, h4⟩, h5, h6, h7⟩
end Go.Proofs.YtdhipdoaefdfeaaGreatDoor.Stp

namespace Go.Proofs.YtdhipdoaefdfeaaGreatDoor.Stp
open Go.RowKit Mur Sha Chn Grv
set_option maxRecDepth 100000

section
variable {P : Program} {w : World}
/-- A row of four cells as an answer. -/
theorem row_four {b : Nat} {x0 x1 x2 x3 : Value} (c0 : w.cell? ⟨b, 0, none⟩ = some x0) (c1 : w.cell? ⟨b, 1, none⟩ = some x1) (c2 : w.cell? ⟨b, 2, none⟩ = some x2) (c3 : w.cell? ⟨b, 3, none⟩ = some x3) : w.rangeAt b 0 [x0, x1, x2, x3] := fun j v hv => match j, hv with
  | 0, hv => by cases hv; exact c0
  | 1, hv => by cases hv; exact c1
  | 2, hv => by cases hv; exact c2
  | 3, hv => by cases hv; exact c3
theorem results_ct {fn : Func} {p q b : Nat} {ty : TypeId} {v : List Value} {c : Value} (hf : fn.results = #[.cell p ty, .tmp q]) (tmps : Array Value) (hp : tmps.getD p undef = .pointer (some ⟨b, 0, none⟩)) (hq : tmps.getD q undef = c) (hr : Hold.TyRow P ty v.length) (hc : w.rangeAt b 0 v) :
    (results fn tmps).run P w = .ok (.tuple #[.agg v.toArray, c]) w := by
  obtain ⟨d, hu, hd, hs⟩ := hr
  have hp' : tmps[p]?.getD undef = .pointer (some ⟨b, 0, none⟩) := by simpa using hp
  have hq' : tmps[q]?.getD undef = c := by simpa using hq
  simp [results, hf, hp', hq', asAddr, run_loadVar_mid w b 0 ty v d hc hu hd hs]
theorem results_tct {fn : Func} {o p q b : Nat} {ty : TypeId} {v : List Value} {a c : Value} (hf : fn.results = #[.tmp o, .cell p ty, .tmp q]) (tmps : Array Value) (ho : tmps.getD o undef = a) (hp : tmps.getD p undef = .pointer (some ⟨b, 0, none⟩)) (hq : tmps.getD q undef = c) (hr : Hold.TyRow P ty v.length) (hc : w.rangeAt b 0 v) :
    (results fn tmps).run P w = .ok (.tuple #[a, .agg v.toArray, c]) w := by
  obtain ⟨d, hu, hd, hs⟩ := hr
  have ho' : tmps[o]?.getD undef = a := by simpa using ho
  have hp' : tmps[p]?.getD undef = .pointer (some ⟨b, 0, none⟩) := by simpa using hp
  have hq' : tmps[q]?.getD undef = c := by simpa using hq
  simp [results, hf, ho', hp', hq', asAddr, run_loadVar_mid w b 0 ty v d hc hu hd hs]
end
theorem signRow : Hold.TyRow Tryz.prog 65 4 := ⟨_, Tryz.underlying65, rfl, by kernel_rfl⟩

theorem num_any (n : Int) (wd : Nat) (M : ByteArray) (w : World) (hwd : wd ≤ 64) (hM : M = tx (num n wd)) :
    Calls Tryz.prog 57 #[.int .i64 n, .int .i64 (wd : Int)] w fun e w' => e = .returned (.string M) ∧ Below w.heap.size w w' := by
  have hw : IntKind.u64.wrap n = (low64 n : Int) := by rw [IntKind.wrap_u64, low64_cast]
  have hl := low64_lt n
  have R1 := fun u => Lanes.high_any (low64 n) (wd : Int) u hl (by omega) (by omega)
  have ew : Lanes.widthOf (wd : Int) = wd := by unfold Lanes.widthOf; omega
  rw [ew] at R1
  have R1 := Lib.hid (show ∀ u, Calls Tryz.prog 61 #[.int .u64 (low64 n : Int), .int .i64 (wd : Int)] u fun e w' => e = .returned (.string M) ∧ Below u.heap.size u w' from by rw [hM]; exact R1)
  clear hl ew hM
  go_enter Tryz.func57, Tryz.ntmps57
  go_wp2_with fail
  refine (R1.out _).mono ?_
  rintro e w1 ⟨rfl, hb⟩
  go_wp2
  go_ret
  exact ⟨rfl, hb⟩
theorem num_one_any (n : Int) (M : ByteArray) (w : World) (hM : M = tx (num n 1)) : Calls Tryz.prog 57 #[.int .i64 n, .int .i64 1] w fun e w' => e = .returned (.string M) ∧ Below w.heap.size w w' := num_any n 1 M w (by omega) hM
theorem num_two_any (n : Int) (M : ByteArray) (w : World) (hM : M = tx (num n 2)) : Calls Tryz.prog 57 #[.int .i64 n, .int .i64 2] w fun e w' => e = .returned (.string M) ∧ Below w.heap.size w w' := num_any n 2 M w (by omega) hM

/-- Derive for one text. -/
theorem derive_one (key t : ByteArray) (n : Nat) (X : ByteArray) (b : Nat) (w : World) (hkey : key.size ≤ 35184372088832) (ht : t.size ≤ 100) (hn : n ≤ 8160) (hb : b < w.heap.size) (hc : w.cell? ⟨b, 0, none⟩ = some (.string t)) (hX : X = tx (Ked.derive key.data.toList n [t.data.toList])) (hk : Consts w) :
    Calls Tryz.prog 44 #[.string key, .int .i64 (n : Int), .slice (some ⟨b, 0, none⟩) 1 1] w fun e w' => e = .returned (.string X) ∧ Below w.heap.size w w' := by
  have e : Ked.many (n : Int) = n := by unfold Ked.many; omega
  have hl : (Ked.infoOf [t.data.toList]).length ≤ 35184372088832 := by
    have : t.data.toList.length = t.size := rfl
    simp only [Ked.infoOf, List.map_cons, List.map_nil, List.flatten_cons, List.flatten_nil, List.append_nil, List.length_append, Lanes.high, List.length_map, List.length_range]
    omega
  exact Ked.derive_any key (n : Int) [t] X (some ⟨b, 0, none⟩) b 0 1 w hkey (fun _ => ⟨rfl, hb⟩) (fun i h => match i, h with | 0, _ => hc) (by show 1 ≤ _; omega) hl (fun s hs => by simp at hs; subst hs; omega) (by rw [hX, e]; rfl) hk

theorem room_any (n h nx : Int) (seed R : ByteArray) (w : World) (hs : seed.size ≤ 35184372088832) (hR : R = tx (roomOf seed.data.toList)) (hk : Consts w) :
    Calls Tryz.prog 54 #[.agg #[.int .i64 n, .int .i64 h, .string seed, .int .i64 nx]] w fun e w' => e = .returned (.string R) ∧ Below w.heap.size w w' := by
  have RD := Lib.hid (fun (b : Nat) (u : World) (hb : b < u.heap.size) (hc : u.cell? ⟨b, 0, none⟩ = some (.string ⟨#[114, 111, 111, 109]⟩)) (hu : Consts u) => derive_one seed ⟨#[114, 111, 111, 109]⟩ 8 R b u hs (by decide) (by omega) hb hc hR hu)
  have HK := Lib.hid hk
  clear hR hk
  go_enter Tryz.func54, Tryz.ntmps54
  have hB := ((Below.refl w.heap.size w).alloc (Nat.le_refl _) (.cells #[.int .i64 n, .int .i64 h, .string seed, .int .i64 nx] 65)).alloc (by simp) (.cells #[.string ⟨#[114, 111, 111, 109]⟩] 9)
  go_wp2_with fail
  refine (RD.out _ _ (by simp) (by simp) (HK.out.below HK.out.1 hB)).mono ?_
  rintro e w1 ⟨rfl, hb⟩
  go_wp2
  go_ret
  exact ⟨rfl, hB.trans (hb.mono hB.size)⟩

theorem two_pow_le (k : Nat) (h : k ≤ 8) : 2 ^ k ≤ 256 := Nat.pow_le_pow_right (by omega) h
theorem leaves_any (n : Int) (H : Nat) (p : Nat) (w : World) (hH : H ≤ 8) (hp : p = 2 ^ H) :
    Calls Tryz.prog 34 #[.agg #[.int .i64 n, .int .i64 (H : Int)]] w fun e w' => e = .returned (.int .i64 (p : Int)) ∧ Below w.heap.size w w' := by
  have h8 := two_pow_le H hH
  have hpz : (2 : Int) ^ H = (p : Int) := by rw [hp, Int.natCast_pow]; rfl
  have h0 : p ≤ 256 := by rw [hp]; exact h8
  have hH0 : (H : Int) < 0 ↔ False := ⟨fun h => by omega, fun h => h.elim⟩
  clear hp h8
  go_enter Tryz.func34, Tryz.ntmps34
  go_wp2
  go_ret
  exact ⟨rfl, (Below.refl _ _).alloc (Nat.le_refl _) _⟩

/-- The leaves of a tree of a height. -/
def leavesI (h : Int) : Nat := 2 ^ h.toNat
theorem leavesI_le (n h : Int) (hr : Right n h) : leavesI h ≤ 256 := two_pow_le _ (by have := hr.2.2.2; omega)
theorem leaves_right (n h : Int) (hr : Right n h) (w : World) :
    Calls Tryz.prog 34 #[.agg #[.int .i64 n, .int .i64 h]] w fun e w' => e = .returned (.int .i64 (leavesI h : Int)) ∧ Below w.heap.size w w' := by
  have g := leaves_any n h.toNat (leavesI h) w (by have := hr.2.2.2; omega) rfl
  rw [show ((h.toNat : Nat) : Int) = h from Int.toNat_of_nonneg hr.2.2.1] at g
  exact g

set_option maxHeartbeats 800000 in
theorem within_any (n h nx : Int) (seed : ByteArray) (w : World) (hr : Right n h) :
    Calls Tryz.prog 33 #[.agg #[.int .i64 n, .int .i64 h, .string seed, .int .i64 nx]] w fun e w' => e = .returned (.bool (decide (0 ≤ nx ∧ nx ≤ (leavesI h : Int)))) ∧ Below w.heap.size w w' := by
  have R1 := Lib.hid (fun u => leaves_right n h hr u)
  have hp := leavesI_le n h hr
  generalize leavesI h = p at *
  obtain ⟨B, hB⟩ : ∃ B, B = decide (0 ≤ nx ∧ nx ≤ (p : Int)) := ⟨_, rfl⟩
  rw [← hB]
  have HBV := Lib.hid hB
  clear hB
  have hB0 := (Below.refl w.heap.size w).alloc (Nat.le_refl _) (.cells #[.int .i64 n, .int .i64 h, .string seed, .int .i64 nx] 65)
  have hc0 : (w.alloc (.cells #[.int .i64 n, .int .i64 h, .string seed, .int .i64 nx] 65)).cell? ⟨w.heap.size, 0, none⟩ = some (.int .i64 n) := by simp
  have hc1 : (w.alloc (.cells #[.int .i64 n, .int .i64 h, .string seed, .int .i64 nx] 65)).cell? ⟨w.heap.size, 1, none⟩ = some (.int .i64 h) := by simp
  have hc3 : (w.alloc (.cells #[.int .i64 n, .int .i64 h, .string seed, .int .i64 nx] 65)).cell? ⟨w.heap.size, 3, none⟩ = some (.int .i64 nx) := by simp
  have hlt : w.heap.size < (w.alloc (.cells #[.int .i64 n, .int .i64 h, .string seed, .int .i64 nx] 65)).heap.size := by simp
  clear hr
  go_enter Tryz.func33, Tryz.ntmps33
  go_upto_region 1 with (fail)
  generalize w.alloc (.cells #[.int .i64 n, .int .i64 h, .string seed, .int .i64 nx] 65) = wz at *
  have HC := Lib.hid (fun (u : World) (q : Below wz.heap.size wz u) => (⟨(q.cell (p := ⟨w.heap.size, 0, none⟩) hlt).trans hc0, (q.cell (p := ⟨w.heap.size, 1, none⟩) hlt).trans hc1, (q.cell (p := ⟨w.heap.size, 3, none⟩) hlt).trans hc3⟩ :
    u.cell? ⟨w.heap.size, 0, none⟩ = some (.int .i64 n) ∧ u.cell? ⟨w.heap.size, 1, none⟩ = some (.int .i64 h) ∧ u.cell? ⟨w.heap.size, 3, none⟩ = some (.int .i64 nx)))
  have HB0 := Lib.hid hB0
  clear hB0 hlt hc0 hc1 hc3
  by_cases h1 : 0 ≤ nx
  · have hd1 : decide (0 ≤ nx) = true := decide_eq_true h1
    have HV := Lib.hid (show decide (nx ≤ (p : Int)) = B by rw [HBV.out]; simp [h1])
    refine Steady.region 11 (by kernel_rfl) (by kernel_rfl) (fun u => Below wz.heap.size wz u) ((Below.refl _ _).drew) ?_
    simp only [List.take_succ_cons, List.take_zero, List.drop_succ_cons, List.drop_zero]
    refine Steady.take ?_ rfl (by intro u hu; go_simp; with_reducible rfl) ?_
    simp only [Act.put, List.setIfInBounds_toArray, List.set_cons_zero, List.set_cons_succ]
    refine Steady.take ?_ rfl (by intro u hu; obtain ⟨c0, c1, c3⟩ := HC.out u hu; go_simp; with_reducible rfl) ?_
    simp only [Act.put, List.setIfInBounds_toArray, List.set_cons_zero, List.set_cons_succ]
    refine Steady.take ?_ rfl (by intro u hu; go_simp; with_reducible rfl) ?_
    simp only [Act.put, List.setIfInBounds_toArray, List.set_cons_zero, List.set_cons_succ]
    refine Steady.take ?_ rfl (by intro u hu; go_simp; with_reducible rfl) ?_
    simp only [Act.put, List.setIfInBounds_toArray, List.set_cons_zero, List.set_cons_succ]
    refine Steady.take ?_ rfl (by intro u hu; go_simp; with_reducible rfl) ?_
    simp only [Act.put, List.setIfInBounds_toArray, List.set_cons_zero, List.set_cons_succ]
    refine Steady.take ?_ rfl (by intro u hu; obtain ⟨c0, c1, c3⟩ := HC.out u hu; go_simp; with_reducible rfl) ?_
    simp only [Act.put, List.setIfInBounds_toArray, List.set_cons_zero, List.set_cons_succ]
    refine Steady.take ?_ rfl (by intro u hu; go_simp; with_reducible rfl) ?_
    simp only [Act.put, List.setIfInBounds_toArray, List.set_cons_zero, List.set_cons_succ]
    refine Steady.take ?_ rfl (by intro u hu; obtain ⟨c0, c1, c3⟩ := HC.out u hu; go_simp; with_reducible rfl) ?_
    simp only [Act.put, List.setIfInBounds_toArray, List.set_cons_zero, List.set_cons_succ]
    refine Steady.call _ _ _ rfl ?_ (Steady.kept R1.out) ?_
    · intro u
      go_simp
    simp only [Act.put, List.setIfInBounds_toArray, List.set_cons_zero, List.set_cons_succ]
    refine Steady.take ?_ rfl (by intro u hu; go_simp; with_reducible rfl) ?_
    simp only [Act.put, List.setIfInBounds_toArray, List.set_cons_zero, List.set_cons_succ]
    refine Steady.take ?_ rfl (by intro u hu; go_simp; with_reducible rfl) ?_
    simp only [Act.put, List.setIfInBounds_toArray, List.set_cons_zero, List.set_cons_succ]
    refine Steady.nil ?_
    intro w2 hu
    go_wp2
    go_ret
    rw [← HV.out]
    exact ⟨rfl, HB0.out.trans (hu.mono HB0.out.size)⟩
  · have hd1 : decide (0 ≤ nx) = false := decide_eq_false h1
    have HV := Lib.hid (show false = B by rw [HBV.out]; simp [h1])
    obtain ⟨c0, c1, c3⟩ := HC.out wz (Below.refl _ _)
    go_quiet (fail)
    go_wp2
    go_ret
    rw [← HV.out]
    exact ⟨rfl, HB0.out.trans ((belowN (Below.refl wz.heap.size wz) nq).mono HB0.out.size)⟩


def leftI (n h nx : Int) : Int := if Right n h ∧ 0 ≤ nx ∧ nx ≤ (leavesI h : Int) then leavesI h - nx else 0

set_option maxHeartbeats 800000 in
theorem left_any (n h nx : Int) (seed : ByteArray) (L : Int) (w : World) (hL : L = leftI n h nx) :
    Calls Tryz.prog 20 #[.agg #[.int .i64 n, .int .i64 h, .string seed, .int .i64 nx]] w fun e w' => e = .returned (.int .i64 L) ∧ Below w.heap.size w w' := by
  have hB0 := (Below.refl w.heap.size w).alloc (Nat.le_refl _) (.cells #[.int .i64 n, .int .i64 h, .string seed, .int .i64 nx] 65)
  have hc0 : (w.alloc (.cells #[.int .i64 n, .int .i64 h, .string seed, .int .i64 nx] 65)).cell? ⟨w.heap.size, 0, none⟩ = some (.int .i64 n) := by simp
  have hc1 : (w.alloc (.cells #[.int .i64 n, .int .i64 h, .string seed, .int .i64 nx] 65)).cell? ⟨w.heap.size, 1, none⟩ = some (.int .i64 h) := by simp
  have hc2 : (w.alloc (.cells #[.int .i64 n, .int .i64 h, .string seed, .int .i64 nx] 65)).cell? ⟨w.heap.size, 2, none⟩ = some (.string seed) := by simp
  have hc3 : (w.alloc (.cells #[.int .i64 n, .int .i64 h, .string seed, .int .i64 nx] 65)).cell? ⟨w.heap.size, 3, none⟩ = some (.int .i64 nx) := by simp
  have hlt : w.heap.size < (w.alloc (.cells #[.int .i64 n, .int .i64 h, .string seed, .int .i64 nx] 65)).heap.size := by simp
  have HL := Lib.hid hL
  clear hL
  go_enter Tryz.func20, Tryz.ntmps20
  go_upto_region 1 with (fail)
  generalize w.alloc (.cells #[.int .i64 n, .int .i64 h, .string seed, .int .i64 nx] 65) = wz at *
  have HC := Lib.hid (fun (u : World) (q : Below wz.heap.size wz u) => (⟨(q.cell (p := ⟨w.heap.size, 0, none⟩) hlt).trans hc0, (q.cell (p := ⟨w.heap.size, 1, none⟩) hlt).trans hc1, (q.cell (p := ⟨w.heap.size, 2, none⟩) hlt).trans hc2, (q.cell (p := ⟨w.heap.size, 3, none⟩) hlt).trans hc3⟩ :
    u.cell? ⟨w.heap.size, 0, none⟩ = some (.int .i64 n) ∧ u.cell? ⟨w.heap.size, 1, none⟩ = some (.int .i64 h) ∧ u.cell? ⟨w.heap.size, 2, none⟩ = some (.string seed) ∧ u.cell? ⟨w.heap.size, 3, none⟩ = some (.int .i64 nx)))
  have HB0 := Lib.hid hB0
  clear hB0 hlt hc2 hc3
  by_cases hr : Right n h
  · have R1 := Lib.hid (fun u => right_yes n h hr u)
    have R2 := Lib.hid (fun u => within_any n h nx seed u hr)
    have R3 := Lib.hid (fun u => leaves_right n h hr u)
    have hp := leavesI_le n h hr
    have HR := Lib.hid hr
    clear hr
    go_wp2_with fail
    refine (R1.out _).mono ?_
    rintro e w1 ⟨rfl, hb1⟩
    have HW1 := Lib.hid hb1
    clear hb1 hc0 hc1
    obtain ⟨c0, c1, c2, c3⟩ := HC.out _ HW1.out
    by_cases hw : 0 ≤ nx ∧ nx ≤ (leavesI h : Int)
    · have hv : L = (leavesI h : Int) - nx := by rw [HL.out, leftI, if_pos ⟨HR.out, hw⟩]
      have HV := Lib.hid hv
      have h1 := hw.1
      have h2 := hw.2
      have R2' := Lib.hid (show ∀ u, Calls Tryz.prog 33 #[.agg #[.int .i64 n, .int .i64 h, .string seed, .int .i64 nx]] u fun e w' => e = .returned (.bool true) ∧ Below u.heap.size u w' from fun u => by have g := R2.out u; rw [decide_eq_true hw] at g; exact g)
      clear R2 hv hw
      generalize leavesI h = p at *
      have hsub : IntKind.i64.wrap ((p : Int) - nx) = (p : Int) - nx := IntWalk.i64_in _ (by omega)
      go_wp2_with fail
      refine (R2'.out _).mono ?_
      rintro e w2 ⟨rfl, hb2⟩
      have HW2 := Lib.hid (HW1.out.trans (hb2.mono HW1.out.size))
      clear hb2 c0 c1 c2 c3
      go_upto_region 3 with (fail)
      have HC2 := Lib.hid (fun (u : World) (q : Below w2.heap.size w2 u) => HC.out u (HW2.out.trans (q.mono HW2.out.size)))
      refine Steady.region 6 (by kernel_rfl) (by kernel_rfl) (fun u => Below w2.heap.size w2 u) ((Below.refl _ _).drew) ?_
      simp only [List.take_succ_cons, List.take_zero, List.drop_succ_cons, List.drop_zero]
      refine Steady.take ?_ rfl (by intro u hu; go_simp; with_reducible rfl) ?_
      simp only [Act.put, List.setIfInBounds_toArray, List.set_cons_zero, List.set_cons_succ]
      refine Steady.take ?_ rfl (by intro u hu; obtain ⟨c0, c1, c2, c3⟩ := HC2.out u hu; go_simp; with_reducible rfl) ?_
      simp only [Act.put, List.setIfInBounds_toArray, List.set_cons_zero, List.set_cons_succ]
      refine Steady.call _ _ _ rfl ?_ (Steady.kept R3.out) ?_
      · intro u
        go_simp
      simp only [Act.put, List.setIfInBounds_toArray, List.set_cons_zero, List.set_cons_succ]
      refine Steady.take ?_ rfl (by intro u hu; go_simp; with_reducible rfl) ?_
      simp only [Act.put, List.setIfInBounds_toArray, List.set_cons_zero, List.set_cons_succ]
      refine Steady.take ?_ rfl (by intro u hu; obtain ⟨c0, c1, c2, c3⟩ := HC2.out u hu; go_simp; with_reducible rfl) ?_
      simp only [Act.put, List.setIfInBounds_toArray, List.set_cons_zero, List.set_cons_succ]
      refine Steady.take ?_ rfl (by intro u hu; go_simp; with_reducible rfl) ?_
      simp only [Act.put, List.setIfInBounds_toArray, List.set_cons_zero, List.set_cons_succ]
      refine Steady.nil ?_
      intro w3 hu
      have HB3 := Lib.hid (HB0.out.trans ((HW2.out.trans (hu.mono HW2.out.size)).mono HB0.out.size))
      clear hu
      go_wp2
      go_ret
      rw [HV.out]
      exact ⟨rfl, HB3.out⟩
    · have hv : L = 0 := by rw [HL.out, leftI, if_neg (fun g => hw g.2)]
      have HV := Lib.hid hv
      have R2' := Lib.hid (show ∀ u, Calls Tryz.prog 33 #[.agg #[.int .i64 n, .int .i64 h, .string seed, .int .i64 nx]] u fun e w' => e = .returned (.bool false) ∧ Below u.heap.size u w' from fun u => by have g := R2.out u; rw [decide_eq_false hw] at g; exact g)
      clear R2 hv hw
      go_wp2_with fail
      refine (R2'.out _).mono ?_
      rintro e w2 ⟨rfl, hb2⟩
      have HW2 := Lib.hid (HW1.out.trans (hb2.mono HW1.out.size))
      clear hb2 c0 c1 c2 c3
      go_wp2
      go_ret
      rw [HV.out]
      exact ⟨rfl, HB0.out.trans (HW2.out.mono HB0.out.size)⟩
  · have hv : L = 0 := by rw [HL.out, leftI, if_neg (fun g => hr g.1)]
    have HV := Lib.hid hv
    have R1 := Lib.hid (fun u => right_no n h hr u)
    clear hr hv
    go_wp2_with fail
    refine (R1.out _).mono ?_
    rintro e w1 ⟨rfl, hb1⟩
    have HW1 := Lib.hid hb1
    clear hb1 hc0 hc1
    go_wp2
    go_ret
    rw [HV.out]
    exact ⟨rfl, HB0.out.trans (HW1.out.mono HB0.out.size)⟩


theorem long_no (n h : Int) (hr : ¬ Right n h) (w : World) :
    Calls Tryz.prog 36 #[.agg #[.int .i64 n, .int .i64 h]] w fun e w' => e = .returned (.int .i64 0) ∧ Below w.heap.size w w' := by
  have R1 := Lib.hid (fun u => right_no n h hr u)
  have hB0 := (Below.refl w.heap.size w).alloc (Nat.le_refl _) (.cells #[.int .i64 n, .int .i64 h] 26)
  clear hr
  go_enter Tryz.func36, Tryz.ntmps36
  go_wp2_with fail
  refine (R1.out _).mono ?_
  rintro e w1 ⟨rfl, hb1⟩
  have HW1 := Lib.hid (hB0.trans (hb1.mono hB0.size))
  clear hb1 hB0
  go_wp2
  go_ret
  exact ⟨rfl, HW1.out⟩

set_option maxHeartbeats 800000 in
theorem long_yes (N H : Nat) (L : Int) (hr : Right (N : Int) (H : Int)) (w : World) (hL : L = (long N H : Int)) :
    Calls Tryz.prog 36 #[.agg #[.int .i64 (N : Int), .int .i64 (H : Int)]] w fun e w' => e = .returned (.int .i64 L) ∧ Below w.heap.size w w' := by
  have R1 := Lib.hid (fun u => right_yes N H hr u)
  have R2 := Lib.hid (fun u => count_yes N H hr u)
  have hN0 := hr.1
  have hN := hr.2.1
  have hH := hr.2.2.2
  obtain ⟨C, hC⟩ : ∃ C, C = 2 * (N : Int) + 3 := ⟨_, rfl⟩
  rw [← hC] at R2
  obtain ⟨D, hD⟩ : ∃ D, D = C + (H : Int) := ⟨_, rfl⟩
  obtain ⟨E, hE⟩ : ∃ E, E = (N : Int) * D := ⟨_, rfl⟩
  have hD1 : IntKind.i64.wrap (C + (H : Int)) = D := by rw [← hD]; exact IntWalk.i64_in _ (by omega)
  have hE0 : 0 ≤ E := by rw [hE]; exact Int.mul_nonneg (by omega) (by omega)
  have hE2 : E ≤ 32 * 75 := by rw [hE]; exact Int.mul_le_mul hN (by omega) (by omega) (by omega)
  have hE1 : IntKind.i64.wrap ((N : Int) * D) = E := by rw [← hE]; exact IntWalk.i64_in _ (by omega)
  have hF1 : IntKind.i64.wrap (2 + E) = 2 + E := IntWalk.i64_in _ (by omega)
  have HV := Lib.hid (show 2 + E = L by
    rw [hL, hE, hD, hC, long]
    simp only [Int.natCast_add, Int.natCast_mul]
    rfl)
  have hB0 := (Below.refl w.heap.size w).alloc (Nat.le_refl _) (.cells #[.int .i64 (N : Int), .int .i64 (H : Int)] 26)
  have hc0 : (w.alloc (.cells #[.int .i64 (N : Int), .int .i64 (H : Int)] 26)).cell? ⟨w.heap.size, 0, none⟩ = some (.int .i64 (N : Int)) := by simp
  have hc1 : (w.alloc (.cells #[.int .i64 (N : Int), .int .i64 (H : Int)] 26)).cell? ⟨w.heap.size, 1, none⟩ = some (.int .i64 (H : Int)) := by simp
  have hlt : w.heap.size < (w.alloc (.cells #[.int .i64 (N : Int), .int .i64 (H : Int)] 26)).heap.size := by simp
  clear hr hL hC hD hE hE2 hE0 hN0 hN hH
  go_enter Tryz.func36, Tryz.ntmps36
  go_upto_region 1 with (fail)
  generalize w.alloc (.cells #[.int .i64 (N : Int), .int .i64 (H : Int)] 26) = wz at *
  have HC := Lib.hid (fun (u : World) (q : Below wz.heap.size wz u) => (⟨(q.cell (p := ⟨w.heap.size, 0, none⟩) hlt).trans hc0, (q.cell (p := ⟨w.heap.size, 1, none⟩) hlt).trans hc1⟩ :
    u.cell? ⟨w.heap.size, 0, none⟩ = some (.int .i64 (N : Int)) ∧ u.cell? ⟨w.heap.size, 1, none⟩ = some (.int .i64 (H : Int))))
  have HB0 := Lib.hid hB0
  clear hB0 hlt
  have HD1 := Lib.hid hD1
  have HE1 := Lib.hid hE1
  have HF1 := Lib.hid hF1
  clear hD1 hE1 hF1
  go_wp2_with fail
  refine (R1.out _).mono ?_
  rintro e w1 ⟨rfl, hb1⟩
  have HW1 := Lib.hid hb1
  clear hb1 hc0 hc1
  go_upto_region 3 with (fail)
  have HC1 := Lib.hid (fun (u : World) (q : Below w1.heap.size w1 u) => HC.out u (HW1.out.trans (q.mono HW1.out.size)))
  have hD1 := HD1.out
  have hE1 := HE1.out
  have hF1 := HF1.out
  refine Steady.region 9 (by kernel_rfl) (by kernel_rfl) (fun u => Below w1.heap.size w1 u) ((Below.refl _ _).drew) ?_
  simp only [List.take_succ_cons, List.take_zero, List.drop_succ_cons, List.drop_zero]
  refine Steady.take ?_ rfl (by intro u hu; go_simp; with_reducible rfl) ?_
  simp only [Act.put, List.setIfInBounds_toArray, List.set_cons_zero, List.set_cons_succ]
  refine Steady.take ?_ rfl (by intro u hu; obtain ⟨c0, c1⟩ := HC1.out u hu; go_simp; with_reducible rfl) ?_
  simp only [Act.put, List.setIfInBounds_toArray, List.set_cons_zero, List.set_cons_succ]
  refine Steady.take ?_ rfl (by intro u hu; obtain ⟨c0, c1⟩ := HC1.out u hu; go_simp; with_reducible rfl) ?_
  simp only [Act.put, List.setIfInBounds_toArray, List.set_cons_zero, List.set_cons_succ]
  refine Steady.call _ _ _ rfl ?_ (Steady.kept R2.out) ?_
  · intro u
    go_simp
  simp only [Act.put, List.setIfInBounds_toArray, List.set_cons_zero, List.set_cons_succ]
  refine Steady.take ?_ rfl (by intro u hu; go_simp; with_reducible rfl) ?_
  simp only [Act.put, List.setIfInBounds_toArray, List.set_cons_zero, List.set_cons_succ]
  refine Steady.take ?_ rfl (by intro u hu; obtain ⟨c0, c1⟩ := HC1.out u hu; go_simp; with_reducible rfl) ?_
  simp only [Act.put, List.setIfInBounds_toArray, List.set_cons_zero, List.set_cons_succ]
  refine Steady.take ?_ rfl (by intro u hu; go_simp; with_reducible rfl) ?_
  simp only [Act.put, List.setIfInBounds_toArray, List.set_cons_zero, List.set_cons_succ]
  refine Steady.take ?_ rfl (by intro u hu; go_simp; with_reducible rfl) ?_
  simp only [Act.put, List.setIfInBounds_toArray, List.set_cons_zero, List.set_cons_succ]
  refine Steady.take ?_ rfl (by intro u hu; go_simp; with_reducible rfl) ?_
  simp only [Act.put, List.setIfInBounds_toArray, List.set_cons_zero, List.set_cons_succ]
  refine Steady.nil ?_
  intro w3 hu
  have HB3 := Lib.hid (HB0.out.trans ((HW1.out.trans (hu.mono HW1.out.size)).mono HB0.out.size))
  clear hu
  go_wp2
  go_ret
  rw [← HV.out]
  exact ⟨rfl, HB3.out⟩

/-- What Use answers. -/
def useE (n h nx k : Int) : Nat := if k < 0 then 1 else if leftI n h nx < k then 6 else 0
def useN (n h nx k : Int) : Int := if useE n h nx k = 0 then nx + k else nx
theorem leftI_bounds (n h nx : Int) : 0 ≤ leftI n h nx ∧ leftI n h nx ≤ 256 := by
  unfold leftI
  split
  · rename_i g
    have := leavesI_le n h g.1
    omega
  · omega
theorem leftI_next (n h nx : Int) (h0 : 0 < leftI n h nx) : Right n h ∧ 0 ≤ nx ∧ nx + leftI n h nx = (leavesI h : Int) ∧ nx < (leavesI h : Int) := by
  unfold leftI at *
  split at h0
  · rename_i g
    rw [if_pos g]
    exact ⟨g.1, g.2.1, by omega, by omega⟩
  · omega


def zeroS : List Value := [.int .i64 0, .int .i64 0, .string ⟨#[]⟩, .int .i64 0]
theorem zero_len : zeroS.length = 4 := rfl
theorem zero_sign : (Tryz.prog.info? 65).map (fun i => (i.zero, i.size)) = some (some (.agg zeroS.toArray), zeroS.length) := by kernel_rfl
def cellsS (n h : Int) (seed : ByteArray) (nx : Int) : List Value := [.int .i64 n, .int .i64 h, .string seed, .int .i64 nx]
/-- A signer's cells under a name. -/
structure Sgn (X : List Value) (n h : Int) (seed : ByteArray) (nx : Int) : Prop where
  len : X.length = 4
  one : Hold.Single X
  shape : Hold.Part X 0 [.int .i64 n, .int .i64 h]
  seed2 : X[2]? = some (.string seed)
  next3 : X[3]? = some (.int .i64 nx)
  agg : Value.agg X.toArray = .agg #[.int .i64 n, .int .i64 h, .string seed, .int .i64 nx]
theorem named (n h : Int) (seed : ByteArray) (nx : Int) : ∃ X, Sgn X n h seed nx ∧ X = cellsS n h seed nx :=
  ⟨cellsS n h seed nx, ⟨rfl, by simp [Hold.Single, cellsS, Value.oneCell'], fun j u hu => match j, hu with
    | 0, hu => hu
    | 1, hu => hu, rfl, rfl, rfl⟩, rfl⟩
theorem shapeRow : Hold.TyRow Tryz.prog 26 2 := ⟨_, Tryz.underlying26, rfl, by kernel_rfl⟩
theorem cellInt : Hold.TyCell Tryz.prog 3 := ⟨_, Tryz.underlying3, rfl, by kernel_rfl⟩
theorem cellStr : Hold.TyCell Tryz.prog 9 := ⟨_, Tryz.underlying9, rfl, by kernel_rfl⟩
theorem cellsS_set (n h : Int) (seed : ByteArray) (nx nx' : Int) : (cellsS n h seed nx).set 3 (.int .i64 nx') = cellsS n h seed nx' := rfl

set_option maxHeartbeats 800000 in
theorem use_any (n h nx k nx' : Int) (e : Int) (seed : ByteArray) (w : World) (h1 : -9223372036854775808 ≤ nx) (h2 : nx < 9223372036854775808) (hn : nx' = useN n h nx k) (he : e = (useE n h nx k : Int)) :
    Calls Tryz.prog 53 #[.agg #[.int .i64 n, .int .i64 h, .string seed, .int .i64 nx], .int .i64 k] w fun v w' => v = .returned (.tuple #[.agg #[.int .i64 n, .int .i64 h, .string seed, .int .i64 nx'], .int .i64 e]) ∧ Below w.heap.size w w' := by
  obtain ⟨L, hL⟩ : ∃ L, L = leftI n h nx := ⟨_, rfl⟩
  obtain ⟨X, hX, hXc⟩ := named n h seed nx
  have R1 := Lib.hid (fun u => left_any n h nx seed L u hL)
  rw [← hX.agg] at R1 ⊢
  have HX := Lib.hid hX
  have HM := Lib.hid (Hold.Hld.start w)
  have hL0 := (leftI_bounds n h nx).1
  rw [← hL] at hL0
  have hXl : X.length = zeroS.length := by rw [hX.len]; rfl
  have HXL := Lib.hid hXl
  clear hX hXl
  by_cases hk : k < 0
  · obtain rfl : e = 1 := by rw [he, useE, if_pos hk]; rfl
    obtain rfl : nx' = nx := by rw [hn, useN, useE, if_pos hk]; rfl
    have hd1 : decide (k < 0) = true := decide_eq_true hk
    have HE := Lib.hid HX.out.agg
    clear hL hn he hk hXc h1 h2
    go_enter Tryz.func53, Tryz.ntmps53
    go_wp2_with ((first
      | (with_reducible refine Hold.box HM.out rfl rfl rfl ?_; clear HM; intro b w HM; simp only [List.nil_append] at HM; replace HM := Lib.hid HM)
      | (with_reducible refine Hold.alloc HM.out rfl rfl zeroS zero_sign ?_; clear HM; intro b w HM; simp only [List.nil_append, List.cons_append] at HM; replace HM := Lib.hid HM)
      | (with_reducible refine Hold.load HM.out 0 (cs := X) rfl rfl rfl rfl (Hold.Part.all _) (by rw [HX.out.len]; exact signRow) ?_)
      | (with_reducible refine Hold.store HM.out 1 (v' := X) rfl rfl rfl rfl rfl (by rw [HXL.out]; exact Nat.le_of_eq (Nat.zero_add _)) (Hold.lay_all HXL.out.symm) (HX.out.one) (by rw [HX.out.len]; exact signRow) ?_; clear HM; intro w HM; simp only [List.set_cons_zero, List.set_cons_succ] at HM; replace HM := Lib.hid HM)))

    refine bodyPost_ret (Hold.resultsCT HM.out 1 rfl _ rfl rfl rfl (by rw [HX.out.len]; exact signRow)) rfl ?_
    rw [HE.out]
    exact ⟨rfl, HM.out.below⟩
  · have hd1 : decide (k < 0) = false := decide_eq_false hk
    by_cases hs : L < k
    · obtain rfl : e = 6 := by rw [he, useE, if_neg hk, ← hL, if_pos hs]; rfl
      obtain rfl : nx' = nx := by rw [hn, useN, useE, if_neg hk, ← hL, if_pos hs]; rfl
      have hd2 : decide (L < k) = true := decide_eq_true hs
      have HE := Lib.hid HX.out.agg
      clear hL hn he hk hXc h1 h2
      go_enter Tryz.func53, Tryz.ntmps53
      go_wp2_with ((first
        | (with_reducible refine Hold.box HM.out rfl rfl rfl ?_; clear HM; intro b w HM; simp only [List.nil_append] at HM; replace HM := Lib.hid HM)
        | (with_reducible refine Hold.alloc HM.out rfl rfl zeroS zero_sign ?_; clear HM; intro b w HM; simp only [List.nil_append, List.cons_append] at HM; replace HM := Lib.hid HM)
        | (with_reducible refine (R1.out _).mono ?_; rintro e w ⟨rfl, hb⟩; replace HM := Lib.hid (HM.out.next hb); clear hb)
        | (with_reducible refine Hold.load HM.out 0 (cs := X) rfl rfl rfl rfl (Hold.Part.all _) (by rw [HX.out.len]; exact signRow) ?_)
        | (with_reducible refine Hold.store HM.out 1 (v' := X) rfl rfl rfl rfl rfl (by rw [HXL.out]; exact Nat.le_of_eq (Nat.zero_add _)) (Hold.lay_all HXL.out.symm) (HX.out.one) (by rw [HX.out.len]; exact signRow) ?_; clear HM; intro w HM; simp only [List.set_cons_zero, List.set_cons_succ] at HM; replace HM := Lib.hid HM)))

      refine bodyPost_ret (Hold.resultsCT HM.out 1 rfl _ rfl rfl rfl (by rw [HX.out.len]; exact signRow)) rfl ?_
      rw [HE.out]
      exact ⟨rfl, HM.out.below⟩
    · have hd2 : decide (L < k) = false := decide_eq_false hs
      have hz : useE n h nx k = 0 := by rw [useE, if_neg hk, ← hL, if_neg hs]
      obtain rfl : e = 0 := by rw [he, hz]; rfl
      have hn2 : nx' = nx + k := by rw [hn, useN, if_pos hz]
      have hw : IntKind.i64.wrap (nx + k) = nx' := by
        rw [hn2]
        refine IntWalk.i64_in _ ?_
        have hL2 := leftI_next n h nx
        rw [← hL] at hL2
        by_cases h0 : 0 < L
        · obtain ⟨g1, g2, g3, g4⟩ := hL2 h0
          have := leavesI_le n h g1
          omega
        · omega
      obtain ⟨Y, hY, hYc⟩ := named n h seed nx'
      have hset : X.set 3 (.int .i64 nx') = Y := by rw [hXc, hYc]; rfl
      have HY := Lib.hid hY
      have HSET := Lib.hid hset
      have HYL := Lib.hid (show Y.length = zeroS.length by rw [hY.len]; rfl)
      have HE := Lib.hid hY.agg
      clear hL hn he hk hXc h1 h2 hY hYc hset hz hn2 hs
      go_enter Tryz.func53, Tryz.ntmps53
      go_upto_region 5 with ((first
        | (with_reducible refine Hold.box HM.out rfl rfl rfl ?_; clear HM; intro b w HM; simp only [List.nil_append] at HM; replace HM := Lib.hid HM)
        | (with_reducible refine Hold.alloc HM.out rfl rfl zeroS zero_sign ?_; clear HM; intro b w HM; simp only [List.nil_append, List.cons_append] at HM; replace HM := Lib.hid HM)
        | (with_reducible refine (R1.out _).mono ?_; rintro e w ⟨rfl, hb⟩; replace HM := Lib.hid (HM.out.next hb); clear hb)
        | (with_reducible refine Hold.load HM.out 0 (cs := X) rfl rfl rfl rfl (Hold.Part.all _) (by rw [HX.out.len]; exact signRow) ?_)))

      go_upto_region 6 with ((first
        | (with_reducible refine Hold.load1 HM.out 0 (c := .int .i64 nx) rfl rfl rfl rfl (HX.out.next3) (cellInt) ?_)
        | (with_reducible refine Hold.store1 HM.out 0 (c := .int .i64 nx') (v' := Y) rfl rfl rfl rfl rfl (by rw [HX.out.len]; decide) (HSET.out) (Hold.cell_int _ _) (cellInt) ?_; clear HM; intro w HM; simp only [List.set_cons_zero] at HM; replace HM := Lib.hid HM)))

      go_wp2_with ((first
        | (with_reducible refine Hold.load HM.out 0 (cs := Y) rfl rfl rfl rfl (Hold.Part.all _) (by rw [HY.out.len]; exact signRow) ?_)
        | (with_reducible refine Hold.store HM.out 1 (v' := Y) rfl rfl rfl rfl rfl (by rw [HYL.out]; exact Nat.le_of_eq (Nat.zero_add _)) (Hold.lay_all HYL.out.symm) (HY.out.one) (by rw [HY.out.len]; exact signRow) ?_; clear HM; intro w HM; simp only [List.set_cons_zero, List.set_cons_succ] at HM; replace HM := Lib.hid HM)))

      refine bodyPost_ret (Hold.resultsCT HM.out 1 rfl _ rfl rfl rfl (by rw [HY.out.len]; exact signRow)) rfl ?_
      rw [HE.out]
      exact ⟨rfl, HM.out.below⟩
end Go.Proofs.YtdhipdoaefdfeaaGreatDoor.Stp

namespace Go.Proofs.YtdhipdoaefdfeaaGreatDoor.Stp
open Go.RowKit Mur Sha Chn Grv
set_option maxRecDepth 100000

theorem parts_two (a0 a1 : ByteArray) (b : Nat) (D : ByteArray) (w : World) (hs : a0.size + a1.size ≤ 1099511627776) (hD : D = tx (sha (parts [a0.data.toList, a1.data.toList]))) (hb : b < w.heap.size)
    (c0 : w.cell? ⟨b, 0, none⟩ = some (.string a0)) (c1 : w.cell? ⟨b, 1, none⟩ = some (.string a1)) (hk : Consts w) :
    Calls Tryz.prog 78 #[.slice (some ⟨b, 0, none⟩) 2 2] w fun e w' => e = .returned (.string D) ∧ Below w.heap.size w w' := by
  rw [hD]
  exact parts_any [a0, a1] b 0 2 w hb (by show 2 ≤ _; omega) (fun i hi => match i, hi with
    | 0, _ => c0
    | 1, _ => c1)
    (by show 0 + (4 + a0.size) + (4 + a1.size) ≤ _; omega) hk
theorem parts_four (a0 a1 a2 a3 : ByteArray) (b : Nat) (D : ByteArray) (w : World) (hs : a0.size + a1.size + a2.size + a3.size ≤ 1099511627776) (hD : D = tx (sha (parts [a0.data.toList, a1.data.toList, a2.data.toList, a3.data.toList]))) (hb : b < w.heap.size)
    (c0 : w.cell? ⟨b, 0, none⟩ = some (.string a0)) (c1 : w.cell? ⟨b, 1, none⟩ = some (.string a1)) (c2 : w.cell? ⟨b, 2, none⟩ = some (.string a2)) (c3 : w.cell? ⟨b, 3, none⟩ = some (.string a3)) (hk : Consts w) :
    Calls Tryz.prog 78 #[.slice (some ⟨b, 0, none⟩) 4 4] w fun e w' => e = .returned (.string D) ∧ Below w.heap.size w w' := by
  rw [hD]
  exact parts_any [a0, a1, a2, a3] b 0 4 w hb (by show 4 ≤ _; omega) (fun i hi => match i, hi with
    | 0, _ => c0
    | 1, _ => c1
    | 2, _ => c2
    | 3, _ => c3)
    (by show 0 + (4 + a0.size) + (4 + a1.size) + (4 + a2.size) + (4 + a3.size) ≤ _; omega) hk

theorem or_add (a b : Nat) (hb : b < 256) : a * 256 ||| b = a * 256 + b := by
  have := Nat.two_pow_add_eq_or_of_lt (i := 8) (show b < 2 ^ 8 from hb) a
  rw [Nat.mul_comm] at this
  exact this.symm
theorem or_bytes (a b : Nat) (ha : a < 256) (hb : b < 256) : bits .or .i64 (wrap64 (wrap64 (a : Int) * 256)) (wrap64 (b : Int)) = ((a * 256 + b : Nat) : Int) := by
  rw [IntWalk.wrap64_in (a : Int) (by omega), IntWalk.wrap64_in (b : Int) (by omega), IntWalk.wrap64_in ((a : Int) * 256) (by omega), show (a : Int) * 256 = ((a * 256 : Nat) : Int) by omega, or_i64_nat _ _ (by omega) (by omega), or_add a b hb]
theorem at_getD (s : ByteArray) (i : Nat) (h : i < s.size) : s.data.toList.getD i 0 = s[i] := by
  have : i < s.data.toList.length := h
  simp only [List.getD, List.getElem?_eq_getElem this]
  rfl
theorem leafOf_any (s : ByteArray) (w : World) (hs : 2 ≤ s.size) :
    Calls Tryz.prog 65 #[.string s] w fun e w' => e = .returned (.int .i64 (leafNum s.data.toList : Int)) ∧ Below w.heap.size w w' := by
  have h0 : 0 < s.size := by omega
  have h1 : 1 < s.size := by omega
  have h1' : (1 : Int) < s.size := by omega
  have HV := Lib.hid (show bits .or .i64 (wrap64 (wrap64 (s[0].toNat : Int) * 256)) (wrap64 (s[1].toNat : Int)) = (leafNum s.data.toList : Int) from by
    rw [or_bytes _ _ s[0].toNat_lt s[1].toNat_lt, leafNum, at_getD s 0 h0, at_getD s 1 h1])
  go_enter Tryz.func65, Tryz.ntmps65
  go_upto_region 1 with (fail)
  go_quiet (fail)
  go_wp2
  go_ret
  exact ⟨Lanes.ret_int HV.out, belowN (Below.refl _ _) nq⟩

/-- What is kept of the world: room, the constants, all memory. -/
structure Keep (w0 : World) (w : World) : Prop where
  room : w0.heap.size < w.heap.size
  consts : Consts w
  below : Below w0.heap.size w0 w
theorem Keep.next {w0 w w' : World} (h : Keep w0 w) (k : Below w.heap.size w w') : Keep w0 w' :=
  ⟨Nat.lt_of_lt_of_le h.room k.size, h.consts.below h.consts.1 k, h.below.trans (k.mono h.below.size)⟩
theorem Keep.drew {w0 w : World} (h : Keep w0 w) : Keep w0 w.drew := ⟨h.room, h.consts, h.below.drew⟩

set_option maxHeartbeats 3200000 in
theorem says_any (N : Nat) (h leaf : Int) (room msg : ByteArray) (V : ByteArray) (w : World) (hN : N ≤ 32) (hs : room.size + msg.size ≤ 549755813888) (hV : V = tx (says N room.data.toList leaf msg.data.toList)) (hk : Consts w) :
    Calls Tryz.prog 56 #[.agg #[.int .i64 (N : Int), .int .i64 h], .string room, .int .i64 leaf, .string msg] w fun e w' => e = .returned (.string V) ∧ Below w.heap.size w w' := by
  obtain ⟨M, hM⟩ : ∃ M, M = tx (num leaf 2) := ⟨_, rfl⟩
  have hs0 : M.size = 2 := by rw [hM]; exact num_length _ _
  have R0 := Lib.hid (fun u => num_two_any leaf M u hM)
  obtain ⟨D, hD⟩ : ∃ D, D = tx (sha (parts [toldT, room.data.toList, num leaf 2, msg.data.toList])) := ⟨_, rfl⟩
  have hcut : D.extract 0 N = V := cut_take D V N _ hD hV
  have hDs : D.size = 32 := by rw [hD]; exact sha_length _
  have hN2 : (N : Int) ≤ D.size := by omega
  have hN3 : (N : Int).toNat = N := by omega
  have hN1 : (N : Int) ≤ 32 := by omega
  have RV := Lib.hid (show ∀ (b0 : Nat) (u : World), b0 < u.heap.size → u.cell? ⟨b0, 0, none⟩ = some (.string ⟨#[116, 111, 108, 100]⟩) → u.cell? ⟨b0, 1, none⟩ = some (.string room) → u.cell? ⟨b0, 2, none⟩ = some (.string M) → u.cell? ⟨b0, 3, none⟩ = some (.string msg) → Consts u → Calls Tryz.prog 78 #[.slice (some ⟨b0, 0, none⟩) 4 4] u fun e w' => e = .returned (.string D) ∧ Below u.heap.size u w' from
    fun b0 u h0 d0 d1 d2 d3 hu => parts_four ⟨#[116, 111, 108, 100]⟩ room M msg b0 D u (by show 4 + room.size + M.size + msg.size ≤ _; omega) (by rw [hD, hM]; rfl) h0 d0 d1 d2 d3 hu)
  clear hV hN hM hs0 hD hDs
  have hK : Keep w (w.alloc (.cells #[.int .i64 (N : Int), .int .i64 h] 26)) := ⟨by simp, hk.below hk.1 (((Below.refl w.heap.size w).alloc (Nat.le_refl _) _)), ((Below.refl w.heap.size w).alloc (Nat.le_refl _) _)⟩
  have hc0 : (w.alloc (.cells #[.int .i64 (N : Int), .int .i64 h] 26)).cell? ⟨w.heap.size, 0, none⟩ = some (.int .i64 (N : Int)) := by simp
  clear hk
  go_enter Tryz.func56, Tryz.ntmps56
  go_upto_region 1 with (fail)
  generalize (w.alloc (.cells #[.int .i64 (N : Int), .int .i64 h] 26)) = wz at *
  have held_next : ∀ {u u' : World}, (u.cell? ⟨w.heap.size, 0, none⟩ = some (.int .i64 (N : Int)) ∧ Keep w u) → Below u.heap.size u u' → (u'.cell? ⟨w.heap.size, 0, none⟩ = some (.int .i64 (N : Int)) ∧ Keep w u') := by
    rintro u u' ⟨e0, kk⟩ q
    have hr := kk.room
    exact ⟨(q.cell (p := ⟨w.heap.size, 0, none⟩) (by assumption)).trans e0, kk.next q⟩
  have held_consts : ∀ {u : World}, (u.cell? ⟨w.heap.size, 0, none⟩ = some (.int .i64 (N : Int)) ∧ Keep w u) → Consts u := by
    rintro u ⟨-, kk⟩
    exact kk.consts
  have held_below : ∀ {u : World}, (u.cell? ⟨w.heap.size, 0, none⟩ = some (.int .i64 (N : Int)) ∧ Keep w u) → Below w.heap.size w u := by
    rintro u ⟨-, kk⟩
    exact kk.below
  have HS := Lib.hid (show wz.drew.cell? ⟨w.heap.size, 0, none⟩ = some (.int .i64 (N : Int)) ∧ Keep w wz.drew from ⟨hc0, hK.drew⟩)
  clear hK hc0
  go_region_held3 (fun w' => w'.cell? ⟨w.heap.size, 0, none⟩ = some (.int .i64 (N : Int)) ∧ Keep w w')
    (first | exact HS.out | assumption | exact held_next (by assumption) (by assumption) | exact held_next (by assumption) ((Below.refl _ _).alloc (Nat.le_refl _) _))
    (first
      | (go_at_call 57; with_reducible refine Calls.mono (R0.out _) ?_; rintro e w' ⟨rfl, hb⟩)
      | (go_at_call 78; refine Calls.mono (RV.out _ _ (by first | (simp; done) | (simp; omega)) (by first | (simp; done) | (rw [World.cell?_alloc_lt _ _ _ (by simp)]; simp; done)) (by first | (simp; done) | (rw [World.cell?_alloc_lt _ _ _ (by simp)]; simp; done)) (by first | (simp; done) | (rw [World.cell?_alloc_lt _ _ _ (by simp)]; simp; done)) (by first | (simp; done) | (rw [World.cell?_alloc_lt _ _ _ (by simp)]; simp; done)) (held_consts (by assumption))) ?_; rintro e w' ⟨rfl, hb⟩))
  all_goals
    go_wp2
    go_ret
    exact ⟨rfl, held_below (by assumption)⟩

theorem pub_no (n h nx : Int) (seed : ByteArray) (w : World) (hr : ¬ Right n h) :
    Calls Tryz.prog 46 #[.agg #[.int .i64 n, .int .i64 h, .string seed, .int .i64 nx]] w fun e w' => e = .returned (.string ⟨#[]⟩) ∧ Below w.heap.size w w' := by
  have R1 := Lib.hid (fun u => right_no n h hr u)
  have hB0 := (Below.refl w.heap.size w).alloc (Nat.le_refl _) (.cells #[.int .i64 n, .int .i64 h, .string seed, .int .i64 nx] 65)
  clear hr
  go_enter Tryz.func46, Tryz.ntmps46
  go_wp2_with fail
  refine (R1.out _).mono ?_
  rintro e w1 ⟨rfl, hb1⟩
  have HW1 := Lib.hid (hB0.trans (hb1.mono hB0.size))
  clear hb1 hB0
  go_wp2
  go_ret
  exact ⟨rfl, HW1.out⟩

set_option maxHeartbeats 800000 in
theorem pub_any (N H : Nat) (nx : Int) (seed V : ByteArray) (w : World) (hr : Right (N : Int) (H : Int)) (hs : seed.size ≤ 34359738360) (hV : V = tx (pub N H seed.data.toList)) (hk : Consts w) :
    Calls Tryz.prog 46 #[.agg #[.int .i64 (N : Int), .int .i64 (H : Int), .string seed, .int .i64 nx]] w fun e w' => e = .returned (.string V) ∧ Below w.heap.size w w' := by
  have hN : N ≤ 32 := by have := hr.2.1; omega
  have hH : H ≤ 8 := by have := hr.2.2.2; omega
  obtain ⟨R, hR⟩ : ∃ R, R = tx (roomOf seed.data.toList) := ⟨_, rfl⟩
  obtain ⟨T, hT⟩ : ∃ T, T = tx (node N seed.data.toList (roomOf seed.data.toList) H 0) := ⟨_, rfl⟩
  have hRs : R.size = 8 := by rw [hR, tx_size, roomOf_length]
  have hTs : T.size = N := by rw [hT, tx_size, node_length N _ _ _ _ hN]
  have hRT : R ++ T = V := by
    apply ByteArray.ext
    apply Array.ext'
    rw [hV, hR, hT]
    simp [pub]
  have R1 := Lib.hid (fun u => right_yes N H hr u)
  have R2 := Lib.hid (fun (u : World) (hu : Consts u) => room_any N H nx seed R u (by omega) hR hu)
  have R3 := Lib.hid (show ∀ (u : World) (hu : Consts u), Calls Tryz.prog 68 #[.agg #[.int .i64 (N : Int), .int .i64 (H : Int)], .string seed, .string R, .agg #[.int .i64 (H : Int), .int .i64 0]] u fun e w' => e = .returned (.string T) ∧ Below u.heap.size u w' from
    fun u hu => node_any N H H 0 seed R T u hr (Nat.le_refl _) (Nat.two_pow_pos _) (by omega) (by rw [hT, hR]) hu)
  have hnt : ¬ 9223372036854775807 < R.size + T.size := by omega
  have HNT := Lib.hid hnt
  have HRT := Lib.hid hRT
  have hB0 := (Below.refl w.heap.size w).alloc (Nat.le_refl _) (.cells #[.int .i64 (N : Int), .int .i64 (H : Int), .string seed, .int .i64 nx] 65)
  have hc0 : (w.alloc (.cells #[.int .i64 (N : Int), .int .i64 (H : Int), .string seed, .int .i64 nx] 65)).cell? ⟨w.heap.size, 0, none⟩ = some (.int .i64 (N : Int)) := by simp
  have hc1 : (w.alloc (.cells #[.int .i64 (N : Int), .int .i64 (H : Int), .string seed, .int .i64 nx] 65)).cell? ⟨w.heap.size, 1, none⟩ = some (.int .i64 (H : Int)) := by simp
  have hc2 : (w.alloc (.cells #[.int .i64 (N : Int), .int .i64 (H : Int), .string seed, .int .i64 nx] 65)).cell? ⟨w.heap.size, 2, none⟩ = some (.string seed) := by simp
  have hc3 : (w.alloc (.cells #[.int .i64 (N : Int), .int .i64 (H : Int), .string seed, .int .i64 nx] 65)).cell? ⟨w.heap.size, 3, none⟩ = some (.int .i64 nx) := by simp
  have hlt : w.heap.size < (w.alloc (.cells #[.int .i64 (N : Int), .int .i64 (H : Int), .string seed, .int .i64 nx] 65)).heap.size := by simp
  clear hr hV hR hT hRs hTs hRT hnt
  go_enter Tryz.func46, Tryz.ntmps46
  go_upto_region 1 with (fail)
  generalize w.alloc (.cells #[.int .i64 (N : Int), .int .i64 (H : Int), .string seed, .int .i64 nx] 65) = wz at *
  have HC := Lib.hid (fun (u : World) (q : Below wz.heap.size wz u) => (⟨(q.cell (p := ⟨w.heap.size, 0, none⟩) hlt).trans hc0, (q.cell (p := ⟨w.heap.size, 1, none⟩) hlt).trans hc1, (q.cell (p := ⟨w.heap.size, 2, none⟩) hlt).trans hc2, (q.cell (p := ⟨w.heap.size, 3, none⟩) hlt).trans hc3, hk.below hk.1 (hB0.trans (q.mono hB0.size))⟩ :
    u.cell? ⟨w.heap.size, 0, none⟩ = some (.int .i64 (N : Int)) ∧ u.cell? ⟨w.heap.size, 1, none⟩ = some (.int .i64 (H : Int)) ∧ u.cell? ⟨w.heap.size, 2, none⟩ = some (.string seed) ∧ u.cell? ⟨w.heap.size, 3, none⟩ = some (.int .i64 nx) ∧ Consts u))
  have HB0 := Lib.hid hB0
  clear hB0 hlt hk hc2 hc3
  go_wp2_with fail
  refine (R1.out _).mono ?_
  rintro e w1 ⟨rfl, hb1⟩
  have HW1 := Lib.hid hb1
  clear hb1 hc0 hc1
  obtain ⟨c0, c1, c2, c3, hk1⟩ := HC.out _ HW1.out
  have HK1 := Lib.hid hk1
  clear hk1
  go_wp2_with fail
  refine (R2.out _ HK1.out).mono ?_
  rintro e w2 ⟨rfl, hb2⟩
  have HW2 := Lib.hid (HW1.out.trans (hb2.mono HW1.out.size))
  clear hb2 c0 c1 c2 c3
  obtain ⟨c0, c1, c2, c3, hk1⟩ := HC.out _ HW2.out
  have HK2 := Lib.hid hk1
  clear hk1
  go_wp2_with fail
  refine (R3.out _ HK2.out).mono ?_
  rintro e w3 ⟨rfl, hb3⟩
  have HW3 := Lib.hid (HB0.out.trans ((HW2.out.trans (hb3.mono HW2.out.size)).mono HB0.out.size))
  clear hb3 c0 c1 c2 c3
  have hnt := HNT.out
  have hRT := HRT.out
  go_wp2
  go_ret
  exact ⟨rfl, HW3.out⟩
end Go.Proofs.YtdhipdoaefdfeaaGreatDoor.Stp

namespace Go.Proofs.YtdhipdoaefdfeaaGreatDoor.Stp
open Go.RowKit Mur Sha Chn Grv
set_option maxRecDepth 100000

theorem zero_one : Hold.Single zeroS := by simp [Hold.Single, zeroS, Value.oneCell']
theorem zero_agg : Value.agg zeroS.toArray = .agg #[.int .i64 0, .int .i64 0, .string ⟨#[]⟩, .int .i64 0] := rfl
/-- A shape's cells under a name. -/
structure Shp (Y : List Value) (n h : Int) : Prop where
  len : Y.length = 2
  one : Hold.Single Y
  agg : Value.agg Y.toArray = .agg #[.int .i64 n, .int .i64 h]
theorem named_shape (n h : Int) : ∃ Y, Shp Y n h ∧ Y = [.int .i64 n, .int .i64 h] := ⟨_, ⟨rfl, by simp [Hold.Single, Value.oneCell'], rfl⟩, rfl⟩
theorem make_no (n h : Int) (seed : ByteArray) (w : World) (hr : ¬ Right n h) :
    Calls Tryz.prog 59 #[.agg #[.int .i64 n, .int .i64 h], .string seed] w fun e w' => e = .returned (.tuple #[.agg #[.int .i64 0, .int .i64 0, .string ⟨#[]⟩, .int .i64 0], .int .i64 1]) ∧ Below w.heap.size w w' := by
  obtain ⟨Y, hY, -⟩ := named_shape n h
  have R1 := Lib.hid (fun u => right_no n h hr u)
  rw [← hY.agg] at R1 ⊢
  have HY := Lib.hid hY
  have HM := Lib.hid (Hold.Hld.start w)
  clear hr hY
  go_enter Tryz.func59, Tryz.ntmps59
  go_wp2_with ((first
    | (with_reducible refine Hold.box HM.out rfl rfl rfl ?_; clear HM; intro b w HM; simp only [List.nil_append] at HM; replace HM := Lib.hid HM)
    | (with_reducible refine Hold.alloc HM.out rfl rfl zeroS zero_sign ?_; clear HM; intro b w HM; simp only [List.nil_append, List.cons_append] at HM; replace HM := Lib.hid HM)
    | (with_reducible refine Hold.load HM.out 0 (cs := Y) rfl rfl rfl rfl (Hold.Part.all _) (by rw [HY.out.len]; exact shapeRow) ?_)
    | (with_reducible refine (R1.out _).mono ?_; rintro e w ⟨rfl, hb⟩; replace HM := Lib.hid (HM.out.next hb); clear hb)
    | (with_reducible refine Hold.build (t := 65) (parts := #[]) (cs := zeroS) rfl rfl ?_ ?_; focus (kernel_rfl))
    | (with_reducible refine Hold.store HM.out 1 (v' := zeroS) rfl rfl rfl rfl rfl (by rw [Nat.zero_add]; exact Nat.le_refl _) (Hold.lay_all rfl) (zero_one) (by rw [zero_len]; exact signRow) ?_; clear HM; intro w HM; simp only [List.set_cons_zero, List.set_cons_succ] at HM; replace HM := Lib.hid HM)))

  refine bodyPost_ret (Hold.resultsCT HM.out 1 rfl _ rfl rfl rfl (by rw [zero_len]; exact signRow)) rfl ?_
  rw [zero_agg]
  exact ⟨rfl, HM.out.below⟩

/-- Four cells of a block that is whole. -/
theorem four_cells {w : World} {b : Nat} {t : TypeId} {x0 x1 x2 x3 : Value} (k : Mur.Whole w b t [x0, x1, x2, x3]) :
    w.cell? ⟨b, 0, none⟩ = some x0 ∧ w.cell? ⟨b, 1, none⟩ = some x1 ∧ w.cell? ⟨b, 2, none⟩ = some x2 ∧ w.cell? ⟨b, 3, none⟩ = some x3 := ⟨k.row.cell rfl, k.row.cell rfl, k.row.cell rfl, k.row.cell rfl⟩
theorem four_free {w : World} {b : Nat} {t : TypeId} {x0 x1 x2 x3 : Value} (k : Mur.Whole w b t [x0, x1, x2, x3]) :
    w.frozen? ⟨b, 0, none⟩ = false ∧ w.frozen? ⟨b, 1, none⟩ = false ∧ w.frozen? ⟨b, 2, none⟩ = false ∧ w.frozen? ⟨b, 3, none⟩ = false :=
  ⟨k.row.free (by simp), k.row.free (by simp), k.row.free (by simp), k.row.free (by simp)⟩
theorem four_set {w : World} {b : Nat} {t : TypeId} {x0 x1 x2 x3 : Value} (k : Mur.Whole w b t [x0, x1, x2, x3]) (y0 y1 y2 y3 : Value) :
    Mur.Whole ((((w.setCell ⟨b, 0, none⟩ y0).setCell ⟨b, 1, none⟩ y1).setCell ⟨b, 2, none⟩ y2).setCell ⟨b, 3, none⟩ y3) b t [y0, y1, y2, y3] := (((k.set 0 _).set 1 _).set 2 _).set 3 _

set_option maxHeartbeats 3200000 in
theorem make_any (N H : Nat) (seed S : ByteArray) (w : World) (hr : Right (N : Int) (H : Int)) (hs : seed.size ≤ 35184372088832) (hS : S = tx (seedOf seed.data.toList)) (hk : Consts w) :
    Calls Tryz.prog 59 #[.agg #[.int .i64 (N : Int), .int .i64 (H : Int)], .string seed] w fun e w' => e = .returned (.tuple #[.agg #[.int .i64 (N : Int), .int .i64 (H : Int), .string S, .int .i64 0], .int .i64 0]) ∧ Below w.heap.size w w' := by
  have R1 := Lib.hid (fun u => right_yes N H hr u)
  have RD := Lib.hid (fun (b : Nat) (u : World) (hb : b < u.heap.size) (hc : u.cell? ⟨b, 0, none⟩ = some (.string ⟨#[115, 105, 103, 110, 101, 114]⟩)) (hu : Consts u) => show Calls Tryz.prog 44 #[.string seed, .int .i64 32, .slice (some ⟨b, 0, none⟩) 1 1] u _ from derive_one seed ⟨#[115, 105, 103, 110, 101, 114]⟩ 32 S b u hs (by decide) (by omega) hb hc hS hu)
  have hB0 := ((Below.refl w.heap.size w).alloc (Nat.le_refl _) (.cells #[.int .i64 (N : Int), .int .i64 (H : Int)] 26)).alloc (by simp) (.cells #[.int .i64 0, .int .i64 0, .string ⟨#[]⟩, .int .i64 0] 65)
  have hc0 : ((w.alloc (.cells #[.int .i64 (N : Int), .int .i64 (H : Int)] 26)).alloc (.cells #[.int .i64 0, .int .i64 0, .string ⟨#[]⟩, .int .i64 0] 65)).cell? ⟨w.heap.size, 0, none⟩ = some (.int .i64 (N : Int)) := by rw [World.cell?_alloc_lt _ _ _ (by simp)]; simp
  have hc1 : ((w.alloc (.cells #[.int .i64 (N : Int), .int .i64 (H : Int)] 26)).alloc (.cells #[.int .i64 0, .int .i64 0, .string ⟨#[]⟩, .int .i64 0] 65)).cell? ⟨w.heap.size, 1, none⟩ = some (.int .i64 (H : Int)) := by rw [World.cell?_alloc_lt _ _ _ (by simp)]; simp
  have hwh : Mur.Whole ((w.alloc (.cells #[.int .i64 (N : Int), .int .i64 (H : Int)] 26)).alloc (.cells #[.int .i64 0, .int .i64 0, .string ⟨#[]⟩, .int .i64 0] 65)) (w.heap.size + 1) 65 [.int .i64 0, .int .i64 0, .string ⟨#[]⟩, .int .i64 0] := by
    have := Mur.Whole.made (w.alloc (.cells #[.int .i64 (N : Int), .int .i64 (H : Int)] 26)) 65 [.int .i64 0, .int .i64 0, .string ⟨#[]⟩, .int .i64 0]
    simpa using this
  have hlt : w.heap.size < ((w.alloc (.cells #[.int .i64 (N : Int), .int .i64 (H : Int)] 26)).alloc (.cells #[.int .i64 0, .int .i64 0, .string ⟨#[]⟩, .int .i64 0] 65)).heap.size := by simp; omega
  clear hr hs hS
  go_enter Tryz.func59, Tryz.ntmps59
  go_upto_region 1 with (fail)
  generalize (w.alloc (.cells #[.int .i64 (N : Int), .int .i64 (H : Int)] 26)).alloc (.cells #[.int .i64 0, .int .i64 0, .string ⟨#[]⟩, .int .i64 0] 65) = wz at *
  have HC := Lib.hid (fun (u : World) (q : Below wz.heap.size wz u) => (⟨(q.cell (p := ⟨w.heap.size, 0, none⟩) hlt).trans hc0, (q.cell (p := ⟨w.heap.size, 1, none⟩) hlt).trans hc1, hwh.below hwh.lt q, hk.below hk.1 (hB0.trans (q.mono hB0.size))⟩ :
    u.cell? ⟨w.heap.size, 0, none⟩ = some (.int .i64 (N : Int)) ∧ u.cell? ⟨w.heap.size, 1, none⟩ = some (.int .i64 (H : Int)) ∧ Mur.Whole u (w.heap.size + 1) 65 [.int .i64 0, .int .i64 0, .string ⟨#[]⟩, .int .i64 0] ∧ Consts u))
  have HB0 := Lib.hid hB0
  have HLT := Lib.hid hlt
  clear hB0 hlt hk hwh
  go_wp2_with fail
  refine (R1.out _).mono ?_
  rintro e w1 ⟨rfl, hb1⟩
  have HW1 := Lib.hid hb1
  clear hb1 hc0 hc1
  obtain ⟨c0, c1, -, -⟩ := HC.out _ HW1.out
  have hlt1 : w.heap.size < w1.heap.size := Nat.lt_of_lt_of_le HLT.out HW1.out.size
  go_upto_region 3 with (fail)
  have HCD := Lib.hid (fun (b : Nat) (o : Obj) => (HC.out _ (HW1.out.trans ((((Below.refl w1.heap.size w1).alloc (Nat.le_refl _) o).drew).mono HW1.out.size))).2.2.2)
  go_region_law ((first
    | (refine step_call rfl 44 Tryz.call44 #[.tmp 11, .const (.int .i64 32), .tmp 12] #[9, 3, 35] rfl #[.string seed, .int .i64 32, .slice (some ⟨w1.heap.size, 0, none⟩) 1 1] (by first | (simp [Act.eval]; done) | simp [Act.eval, Act.put]) _ _ (RD.out _ _ (by simp) (by simp) (HCD.out 0 _)) ?_; intro w3 hb3; have HW3 := Lib.hid (HW1.out.trans ((((Below.refl w1.heap.size w1).alloc (Nat.le_refl _) (.cells #[.string ⟨#[115, 105, 103, 110, 101, 114]⟩] 9)).drew.trans (hb3.mono (by simp))).mono HW1.out.size)); clear hb3; obtain ⟨d0, d1, hwh3, -⟩ := HC.out _ HW3.out; obtain ⟨e0, e1, e2, e3⟩ := four_cells hwh3; obtain ⟨f0, f1, f2, f3⟩ := four_free hwh3; have HWH := Lib.hid hwh3; clear hwh3)))
  all_goals
    have HZ := Lib.hid (four_set HWH.out (.int .i64 (N : Int)) (.int .i64 (H : Int)) (.string S) (.int .i64 0))
    have HBZ := Lib.hid (((((HB0.out.trans (HW3.out.mono HB0.out.size)).setCell (p := ⟨w.heap.size + 1, 0, none⟩) (Nat.le_succ _) (.int .i64 (N : Int))).setCell (p := ⟨w.heap.size + 1, 1, none⟩) (Nat.le_succ _) (.int .i64 (H : Int))).setCell (p := ⟨w.heap.size + 1, 2, none⟩) (Nat.le_succ _) (.string S)).setCell (p := ⟨w.heap.size + 1, 3, none⟩) (Nat.le_succ _) (.int .i64 0))
    generalize ((((w3.setCell ⟨w.heap.size + 1, 0, none⟩ (.int .i64 (N : Int))).setCell ⟨w.heap.size + 1, 1, none⟩ (.int .i64 (H : Int))).setCell ⟨w.heap.size + 1, 2, none⟩ (.string S)).setCell ⟨w.heap.size + 1, 3, none⟩ (.int .i64 0)) = wq at *
    clear d0 d1 e0 e1 e2 e3 f0 f1 f2 f3 HWH HW3
    go_wp2
    exact bodyPost_ret (results_ct rfl _ rfl rfl signRow HZ.out.range) rfl ⟨rfl, HBZ.out⟩
end Go.Proofs.YtdhipdoaefdfeaaGreatDoor.Stp

namespace Go.Proofs.YtdhipdoaefdfeaaGreatDoor.Stp
open Go.RowKit Mur Sha Chn Grv
set_option maxRecDepth 100000

theorem sign_eql {o : Oper} {a : Act} {x y : Operand} {t : TypeId} (n h nx nx' : Int) (seed : ByteArray) (ho : o.op = .binOp .eql 65 x y t) (hx : a.eval x = .agg #[.int .i64 n, .int .i64 h, .string seed, .int .i64 nx]) (hy : a.eval y = .agg #[.int .i64 n, .int .i64 h, .string seed, .int .i64 nx']) (u : World) :
    (execOp a.eval o).run Tryz.prog u = .ok (.value (.bool (decide (nx = nx')))) u := by
  unfold execOp
  simp only [ho, hx, hy]
  go_simp
  by_cases e : nx = nx' <;> simp [e]
theorem sign_neq {o : Oper} {a : Act} {x y : Operand} {t : TypeId} (n h nx nx' : Int) (seed : ByteArray) (ho : o.op = .binOp .neq 65 x y t) (hx : a.eval x = .agg #[.int .i64 n, .int .i64 h, .string seed, .int .i64 nx]) (hy : a.eval y = .agg #[.int .i64 n, .int .i64 h, .string seed, .int .i64 nx']) (u : World) :
    (execOp a.eval o).run Tryz.prog u = .ok (.value (.bool (!decide (nx = nx')))) u := by
  unfold execOp
  simp only [ho, hx, hy]
  go_simp
  by_cases e : nx = nx' <;> simp [e]
theorem sgn_eql {X Y : List Value} {n h nx nx' : Int} {seed : ByteArray} (hX : Sgn X n h seed nx) (hY : Sgn Y n h seed nx') (b : Bool) (hb : b = decide (nx = nx')) {o : Oper} {a : Act} {x y : Operand} {t : TypeId} (ho : o.op = .binOp .eql 65 x y t) (hx : a.eval x = .agg X.toArray) (hy : a.eval y = .agg Y.toArray) (u : World) :
    (execOp a.eval o).run Tryz.prog u = .ok (.value (.bool b)) u := by
  rw [hb]
  exact sign_eql n h nx nx' seed ho (hx.trans hX.agg) (hy.trans hY.agg) u

section
variable {P : Program} {ops : Array Oper} {rest : List Oper} {op : Oper} {a : Act} {w w0 : World} {m : List Hold.Blk} {Q : Exit → Act → World → Prop}
theorem wpList_run (hg : op.guard = none) (v : Value) (hr : (execOp a.eval op).run P w = .ok (.value v) w) (hk : wpList P ops Q rest (a.put op.dst v) w) : wpList P ops Q (op :: rest) a w := by
  refine wpList_plain hg fun K hK => ?_
  unfold Oper.wp
  rw [hr]
  exact hK _ _ hk
theorem kept_if {f : FuncId} {args : Array Value} {v : Value} (R : ∀ u, Below w0.heap.size w0 u → Calls P f args u fun e w' => e = .returned v ∧ Below u.heap.size u w') : ∀ u, Hold.Hld w0 m u → Calls P f args u fun e w' => e = .returned v ∧ Hold.Hld w0 m w' := fun u h =>
  (R u h.below).mono fun _ _ ⟨he, hb⟩ => ⟨he, h.next hb⟩
end

set_option maxHeartbeats 1600000 in
theorem sign_bad (n h nx : Int) (seed msg : ByteArray) (w : World) (hbad : ¬ (Right n h ∧ 0 ≤ nx)) :
    Calls Tryz.prog 37 #[.agg #[.int .i64 n, .int .i64 h, .string seed, .int .i64 nx], .string msg] w fun e w' => e = .returned (.tuple #[.string ⟨#[]⟩, .agg #[.int .i64 n, .int .i64 h, .string seed, .int .i64 nx], .int .i64 1]) ∧ Below w.heap.size w w' := by
  obtain ⟨X, hX, -⟩ := named n h seed nx
  obtain ⟨Y, hY, hYc⟩ := named_shape n h
  have hXY : Hold.Part X 0 Y := by rw [hYc]; exact hX.shape
  have R1 := Lib.hid (fun u => right_any n h u)
  rw [← hY.agg] at R1
  rw [← hX.agg]
  have HX := Lib.hid hX
  have HY := Lib.hid hY
  have HXY := Lib.hid hXY
  have HXL := Lib.hid (show X.length = zeroS.length by rw [hX.len]; rfl)
  have HM := Lib.hid (Hold.Hld.start w)
  clear hX hY hYc hXY
  by_cases hr : Right n h
  · have hd : decide (nx < 0) = true := by
      have : ¬ 0 ≤ nx := fun g => hbad ⟨hr, g⟩
      simp; omega
    rw [decide_eq_true hr] at R1
    clear hbad hr
    go_enter Tryz.func37, Tryz.ntmps37
    go_upto_region 2 with ((first
      | (with_reducible refine Hold.box HM.out rfl rfl rfl ?_; clear HM; intro b0 w HM; simp only [List.nil_append] at HM; replace HM := Lib.hid HM)
      | (with_reducible refine Hold.alloc HM.out rfl rfl zeroS zero_sign ?_; clear HM; intro b1 w HM; simp only [List.nil_append, List.cons_append] at HM; replace HM := Lib.hid HM)
      | (with_reducible refine Hold.load HM.out 0 (cs := Y) rfl rfl rfl rfl (HXY.out) (by rw [HY.out.len]; exact shapeRow) ?_)
      | (with_reducible refine (R1.out _).mono ?_; rintro e w ⟨rfl, hb⟩; replace HM := Lib.hid (HM.out.next hb); clear hb; have c3 : w.cell? ⟨b0, 3, none⟩ = some (.int .i64 nx) := (HM.out.at 0 rfl).row.cell HX.out.next3)))

    clear c3
    refine Steady.region 2 (by kernel_rfl) (by kernel_rfl) (fun u => Hold.Hld _ _ u) HM.out.drew ?_
    simp only [List.take_succ_cons, List.take_zero, List.drop_succ_cons, List.drop_zero]
    refine Steady.take (.agg (X).toArray) rfl (fun u hu => Hold.load_run hu 0 rfl rfl rfl (Hold.Part.all _) (by rw [HX.out.len]; exact signRow)) ?_
    simp only [Act.put, List.setIfInBounds_toArray, List.set_cons_zero, List.set_cons_succ]
    refine Steady.take ?_ rfl (by intro u hu; go_simp; with_reducible rfl) ?_
    simp only [Act.put, List.setIfInBounds_toArray, List.set_cons_zero, List.set_cons_succ]
    refine Steady.nil ?_
    clear HM
    intro w HM
    replace HM := Lib.hid HM

    go_wp2_with ((first
      | (with_reducible refine Hold.store HM.out 1 (v' := X) rfl rfl rfl rfl rfl (by rw [HXL.out]; exact Nat.le_of_eq (Nat.zero_add _)) (Hold.lay_all HXL.out.symm) (HX.out.one) (by rw [HX.out.len]; exact signRow) ?_; clear HM; intro w HM; simp only [List.set_cons_zero, List.set_cons_succ] at HM; replace HM := Lib.hid HM)))

    exact bodyPost_ret (results_tct rfl _ rfl rfl rfl (by rw [HX.out.len]; exact signRow) (HM.out.range 1 rfl (Hold.Part.all _))) rfl ⟨rfl, HM.out.below⟩
  · rw [decide_eq_false hr] at R1
    clear hbad hr
    go_enter Tryz.func37, Tryz.ntmps37
    go_upto_region 2 with ((first
      | (with_reducible refine Hold.box HM.out rfl rfl rfl ?_; clear HM; intro b0 w HM; simp only [List.nil_append] at HM; replace HM := Lib.hid HM)
      | (with_reducible refine Hold.alloc HM.out rfl rfl zeroS zero_sign ?_; clear HM; intro b1 w HM; simp only [List.nil_append, List.cons_append] at HM; replace HM := Lib.hid HM)
      | (with_reducible refine Hold.load HM.out 0 (cs := Y) rfl rfl rfl rfl (HXY.out) (by rw [HY.out.len]; exact shapeRow) ?_)
      | (with_reducible refine (R1.out _).mono ?_; rintro e w ⟨rfl, hb⟩; replace HM := Lib.hid (HM.out.next hb); clear hb)))

    refine Steady.region 2 (by kernel_rfl) (by kernel_rfl) (fun u => Hold.Hld _ _ u) HM.out.drew ?_
    simp only [List.take_succ_cons, List.take_zero, List.drop_succ_cons, List.drop_zero]
    refine Steady.take (.agg (X).toArray) rfl (fun u hu => Hold.load_run hu 0 rfl rfl rfl (Hold.Part.all _) (by rw [HX.out.len]; exact signRow)) ?_
    simp only [Act.put, List.setIfInBounds_toArray, List.set_cons_zero, List.set_cons_succ]
    refine Steady.take ?_ rfl (by intro u hu; go_simp; with_reducible rfl) ?_
    simp only [Act.put, List.setIfInBounds_toArray, List.set_cons_zero, List.set_cons_succ]
    refine Steady.nil ?_
    clear HM
    intro w HM
    replace HM := Lib.hid HM

    go_wp2_with ((first
      | (with_reducible refine Hold.store HM.out 1 (v' := X) rfl rfl rfl rfl rfl (by rw [HXL.out]; exact Nat.le_of_eq (Nat.zero_add _)) (Hold.lay_all HXL.out.symm) (HX.out.one) (by rw [HX.out.len]; exact signRow) ?_; clear HM; intro w HM; simp only [List.set_cons_zero, List.set_cons_succ] at HM; replace HM := Lib.hid HM)))

    exact bodyPost_ret (results_tct rfl _ rfl rfl rfl (by rw [HX.out.len]; exact signRow) (HM.out.range 1 rfl (Hold.Part.all _))) rfl ⟨rfl, HM.out.below⟩

set_option maxHeartbeats 1600000 in
theorem sign_spent (n h nx : Int) (seed msg : ByteArray) (w : World) (hr : Right n h) (h0 : 0 ≤ nx) (h2 : nx < 9223372036854775808) (hsp : (leavesI h : Int) ≤ nx) :
    Calls Tryz.prog 37 #[.agg #[.int .i64 n, .int .i64 h, .string seed, .int .i64 nx], .string msg] w fun e w' => e = .returned (.tuple #[.string ⟨#[]⟩, .agg #[.int .i64 n, .int .i64 h, .string seed, .int .i64 nx], .int .i64 6]) ∧ Below w.heap.size w w' := by
  obtain ⟨X, hX, -⟩ := named n h seed nx
  obtain ⟨Y, hY, hYc⟩ := named_shape n h
  have hXY : Hold.Part X 0 Y := by rw [hYc]; exact hX.shape
  have R1 := Lib.hid (fun u => right_yes n h hr u)
  have hl : leftI n h nx < 1 := by unfold leftI; split <;> omega
  have hue : useE n h nx 1 = 6 := by rw [useE, if_neg (by omega), if_pos hl]
  have RU := Lib.hid (show ∀ u, Calls Tryz.prog 53 #[.agg #[.int .i64 n, .int .i64 h, .string seed, .int .i64 nx], .int .i64 1] u fun e w' => e = .returned (.tuple #[.agg #[.int .i64 n, .int .i64 h, .string seed, .int .i64 nx], .int .i64 6]) ∧ Below u.heap.size u w' from
    fun u => use_any n h nx 1 nx 6 seed u (by omega) h2 (by rw [useN, hue]; rfl) (by rw [hue]; rfl))
  have hd : decide (nx < 0) = false := by simp; omega
  rw [← hY.agg] at R1
  rw [← hX.agg] at RU ⊢
  have HX := Lib.hid hX
  have HY := Lib.hid hY
  have HXY := Lib.hid hXY
  have HXL := Lib.hid (show X.length = zeroS.length by rw [hX.len]; rfl)
  have HXA := Lib.hid hX.agg
  have HM := Lib.hid (Hold.Hld.start w)
  clear hX hY hYc hXY hl hue hr h0 h2 hsp
  go_enter Tryz.func37, Tryz.ntmps37
  go_upto_region 3 with ((first
    | (with_reducible refine Hold.box HM.out rfl rfl rfl ?_; clear HM; intro b0 w HM; simp only [List.nil_append] at HM; replace HM := Lib.hid HM)
    | (with_reducible refine Hold.alloc HM.out rfl rfl zeroS zero_sign ?_; clear HM; intro b1 w HM; simp only [List.nil_append, List.cons_append] at HM; replace HM := Lib.hid HM)
    | (with_reducible refine Hold.load HM.out 0 (cs := Y) rfl rfl rfl rfl (HXY.out) (by rw [HY.out.len]; exact shapeRow) ?_)
    | (with_reducible refine (R1.out _).mono ?_; rintro e w ⟨rfl, hb⟩; replace HM := Lib.hid (HM.out.next hb); clear hb; have c3 : w.cell? ⟨b0, 3, none⟩ = some (.int .i64 nx) := (HM.out.at 0 rfl).row.cell HX.out.next3)))

  clear c3
  go_upto_region 4 with ((first
    | (with_reducible refine Hold.load HM.out 0 (cs := X) rfl rfl rfl rfl (Hold.Part.all _) (by rw [HX.out.len]; exact signRow) ?_)
    | (with_reducible refine (RU.out _).mono ?_; rintro e w ⟨rfl, hb⟩; replace HM := Lib.hid (HM.out.next hb); clear hb)
    | (with_reducible refine Hold.alloc HM.out rfl rfl zeroS zero_sign ?_; clear HM; intro b2 w HM; simp only [List.nil_append, List.cons_append] at HM; replace HM := Lib.hid HM)
    | (with_reducible refine Hold.store HM.out 2 (v' := X) rfl rfl rfl rfl rfl (by rw [HXL.out]; exact Nat.le_of_eq (Nat.zero_add _)) (Hold.lay_all HXL.out.symm) (HX.out.one) (by rw [HX.out.len]; exact signRow) ?_; clear HM; intro w HM; simp only [List.set_cons_zero, List.set_cons_succ] at HM; replace HM := Lib.hid HM)))

  go_upto_region 5 with ((first
    | (with_reducible refine Hold.load HM.out 0 (cs := X) rfl rfl rfl rfl (Hold.Part.all _) (by rw [HX.out.len]; exact signRow) ?_; rw [HXA.out])
    | (with_reducible refine Hold.load HM.out 2 (cs := X) rfl rfl rfl rfl (Hold.Part.all _) (by rw [HX.out.len]; exact signRow) ?_; rw [HXA.out])))

  refine Steady.region 2 (by kernel_rfl) (by kernel_rfl) (fun u => Hold.Hld _ _ u) HM.out.drew ?_
  simp only [List.take_succ_cons, List.take_zero, List.drop_succ_cons, List.drop_zero]
  refine Steady.take (.agg (X).toArray) rfl (fun u hu => Hold.load_run hu 0 rfl rfl rfl (Hold.Part.all _) (by rw [HX.out.len]; exact signRow)) ?_
  simp only [Act.put, List.setIfInBounds_toArray, List.set_cons_zero, List.set_cons_succ]
  refine Steady.take ?_ rfl (by intro u hu; go_simp; with_reducible rfl) ?_
  simp only [Act.put, List.setIfInBounds_toArray, List.set_cons_zero, List.set_cons_succ]
  refine Steady.nil ?_
  clear HM
  intro w HM
  replace HM := Lib.hid HM

  go_wp2_with ((first
    | (with_reducible refine Hold.store HM.out 1 (v' := X) rfl rfl rfl rfl rfl (by rw [HXL.out]; exact Nat.le_of_eq (Nat.zero_add _)) (Hold.lay_all HXL.out.symm) (HX.out.one) (by rw [HX.out.len]; exact signRow) ?_; clear HM; intro w HM; simp only [List.set_cons_zero, List.set_cons_succ] at HM; replace HM := Lib.hid HM)))

  exact bodyPost_ret (results_tct rfl _ rfl rfl rfl (by rw [HX.out.len]; exact signRow) (HM.out.range 1 rfl (Hold.Part.all _))) rfl ⟨rfl, HM.out.below⟩

set_option maxHeartbeats 3200000 in
theorem sign_any (N H leaf : Nat) (seed msg V : ByteArray) (w : World) (hr : Right (N : Int) (H : Int)) (hlf : leaf < 2 ^ H) (hs : seed.size ≤ 34359738300) (hm : msg.size ≤ 274877906944) (hV : V = tx (signature N H seed.data.toList leaf msg.data.toList)) (hk : Consts w) :
    Calls Tryz.prog 37 #[.agg #[.int .i64 (N : Int), .int .i64 (H : Int), .string seed, .int .i64 (leaf : Int)], .string msg] w fun e w' => e = .returned (.tuple #[.string V, .agg #[.int .i64 (N : Int), .int .i64 (H : Int), .string seed, .int .i64 (leaf + 1 : Nat)], .int .i64 0]) ∧ Below w.heap.size w w' := by
  have hN : N ≤ 32 := by have := hr.2.1; omega
  have hH : H ≤ 8 := by have := hr.2.2.2; omega
  have h8 := two_pow_le H hH
  obtain ⟨X, hX, -⟩ := named N H seed leaf
  obtain ⟨X', hX', -⟩ := named N H seed ((leaf + 1 : Nat) : Int)
  obtain ⟨Y, hY, hYc⟩ := named_shape N H
  have hXY : Hold.Part X 0 Y := by rw [hYc]; exact hX.shape
  obtain ⟨R, hR⟩ : ∃ R, R = tx (roomOf seed.data.toList) := ⟨_, rfl⟩
  obtain ⟨D, hD⟩ : ∃ D, D = tx (says N (roomOf seed.data.toList) (leaf : Int) msg.data.toList) := ⟨_, rfl⟩
  obtain ⟨G, hG⟩ : ∃ G, G = tx (sign N seed.data.toList (roomOf seed.data.toList) (leaf : Int) (says N (roomOf seed.data.toList) (leaf : Int) msg.data.toList)) := ⟨_, rfl⟩
  obtain ⟨T, hT⟩ : ∃ T, T = tx (path N H seed.data.toList (roomOf seed.data.toList) leaf) := ⟨_, rfl⟩
  obtain ⟨M, hM⟩ : ∃ M, M = tx (num (leaf : Int) 2) := ⟨_, rfl⟩
  obtain ⟨A, hA⟩ : ∃ A, A = M ++ G := ⟨_, rfl⟩
  have hRs : R.size = 8 := by rw [hR, tx_size, roomOf_length]
  have hMs : M.size = 2 := by rw [hM, tx_size, num_length]
  have hGs : G.size ≤ 32 * 67 := by
    rw [hG, tx_size, sign_length _ _ _ _ _ hN]
    exact Nat.mul_le_mul hN (by omega)
  have hTs : T.size ≤ 32 * 8 := by
    rw [hT, tx_size, path_length _ _ _ _ _ hN]
    exact Nat.mul_le_mul hN hH
  have hAs : A.size = M.size + G.size := by rw [hA, ByteArray.size_append]
  have hAT : A ++ T = V := by
    apply ByteArray.ext
    apply Array.ext'
    rw [hA, hV, hM, hG, hT]
    simp [signature]
  have hp : leavesI (H : Int) = 2 ^ H := by unfold leavesI; rw [Int.toNat_natCast]
  have hl : leftI (N : Int) (H : Int) (leaf : Int) = (2 ^ H : Nat) - (leaf : Int) := by
    unfold leftI
    rw [hp, if_pos ⟨hr, by omega, by omega⟩]
  have hue : useE (N : Int) (H : Int) (leaf : Int) 1 = 0 := by rw [useE, if_neg (by omega), hl, if_neg (by omega)]
  have R1 := Lib.hid (fun u => right_yes N H hr u)
  have RU := Lib.hid (show ∀ u, Calls Tryz.prog 53 #[.agg #[.int .i64 (N : Int), .int .i64 (H : Int), .string seed, .int .i64 (leaf : Int)], .int .i64 1] u fun e w' => e = .returned (.tuple #[.agg #[.int .i64 (N : Int), .int .i64 (H : Int), .string seed, .int .i64 ((leaf + 1 : Nat) : Int)], .int .i64 0]) ∧ Below u.heap.size u w' from
    fun u => use_any N H leaf 1 ((leaf + 1 : Nat) : Int) 0 seed u (by omega) (by omega) (by rw [useN, if_pos hue]; omega) (by rw [hue]; rfl))
  have RR := Lib.hid (fun (u : World) (hu : Below w.heap.size w u) => room_any N H leaf seed R u (by omega) hR (hk.below hk.1 hu))
  have RT := Lib.hid (fun (u : World) (hu : Below w.heap.size w u) => says_any N H leaf R msg D u hN (by omega) (by rw [hD, hR]) (hk.below hk.1 hu))
  have RG := Lib.hid (fun (u : World) (hu : Below w.heap.size w u) => Chn.sign_any N H seed R D leaf G u hr (by omega) (by rw [hG, hR, hD]) (hk.below hk.1 hu))
  have RP := Lib.hid (fun (u : World) (hu : Below w.heap.size w u) => path_any N H leaf seed R T u hr hlf (by omega) (by rw [hT, hR]) (hk.below hk.1 hu))
  have RN := Lib.hid (fun u => num_two_any leaf M u hM)
  have hd : decide ((leaf : Int) < 0) = false := by simp
  rw [← hY.agg] at R1 RT RG RP
  rw [← hX.agg] at RU RR ⊢
  rw [← hX'.agg] at RU ⊢
  have HX := Lib.hid hX
  have HX' := Lib.hid hX'
  have HY := Lib.hid hY
  have HXY := Lib.hid hXY
  have HXL := Lib.hid (show X.length = zeroS.length by rw [hX.len]; rfl)
  have HXL' := Lib.hid (show X'.length = zeroS.length by rw [hX'.len]; rfl)
  have HXA := Lib.hid hX.agg
  have HXA' := Lib.hid hX'.agg
  have HNE := Lib.hid (show ¬ (((leaf + 1 : Nat) : Int) = (leaf : Int)) by omega)
  have HA := Lib.hid hA.symm
  have HAT := Lib.hid hAT
  have HN1 := Lib.hid (show ¬ 9223372036854775807 < M.size + G.size by omega)
  have HN2 := Lib.hid (show ¬ 9223372036854775807 < A.size + T.size by omega)
  have HM := Lib.hid (Hold.Hld.start w)
  clear hX hX' hY hYc hXY hR hD hG hT hM hA hRs hMs hGs hTs hAs hAT hp hl hue hr hlf hs hm hV hk h8 hN hH
  go_enter Tryz.func37, Tryz.ntmps37
  go_upto_region 3 with ((first
    | (with_reducible refine Hold.box HM.out rfl rfl rfl ?_; clear HM; intro b0 w HM; simp only [List.nil_append] at HM; replace HM := Lib.hid HM)
    | (with_reducible refine Hold.alloc HM.out rfl rfl zeroS zero_sign ?_; clear HM; intro b1 w HM; simp only [List.nil_append, List.cons_append] at HM; replace HM := Lib.hid HM)
    | (with_reducible refine Hold.load HM.out 0 (cs := Y) rfl rfl rfl rfl (HXY.out) (by rw [HY.out.len]; exact shapeRow) ?_)
    | (with_reducible refine (R1.out _).mono ?_; rintro e w ⟨rfl, hb⟩; replace HM := Lib.hid (HM.out.next hb); clear hb; have c3 : w.cell? ⟨b0, 3, none⟩ = some (.int .i64 (leaf : Int)) := (HM.out.at 0 rfl).row.cell HX.out.next3)))

  clear c3
  go_upto_region 4 with ((first
    | (with_reducible refine Hold.load HM.out 0 (cs := X) rfl rfl rfl rfl (Hold.Part.all _) (by rw [HX.out.len]; exact signRow) ?_)
    | (with_reducible refine (RU.out _).mono ?_; rintro e w ⟨rfl, hb⟩; replace HM := Lib.hid (HM.out.next hb); clear hb)
    | (with_reducible refine Hold.alloc HM.out rfl rfl zeroS zero_sign ?_; clear HM; intro b2 w HM; simp only [List.nil_append, List.cons_append] at HM; replace HM := Lib.hid HM)
    | (with_reducible refine Hold.store HM.out 2 (v' := X') rfl rfl rfl rfl rfl (by rw [HXL'.out]; exact Nat.le_of_eq (Nat.zero_add _)) (Hold.lay_all HXL'.out.symm) (HX'.out.one) (by rw [HX'.out.len]; exact signRow) ?_; clear HM; intro w HM; simp only [List.set_cons_zero, List.set_cons_succ] at HM; replace HM := Lib.hid HM)))

  go_upto_region 6 with ((first
    | (with_reducible refine Hold.load HM.out 0 (cs := X) rfl rfl rfl rfl (Hold.Part.all _) (by rw [HX.out.len]; exact signRow) ?_; rw [HXA.out])
    | (with_reducible refine Hold.load HM.out 2 (cs := X') rfl rfl rfl rfl (Hold.Part.all _) (by rw [HX'.out.len]; exact signRow) ?_; rw [HXA'.out]; have hne := HNE.out)))

  clear hne
  go_upto_region 7 with ((first
    | (with_reducible refine Hold.load HM.out 0 (cs := X) rfl rfl rfl rfl (Hold.Part.all _) (by rw [HX.out.len]; exact signRow) ?_)
    | (with_reducible refine (RR.out _ HM.out.below).mono ?_; rintro e w ⟨rfl, hb⟩; replace HM := Lib.hid (HM.out.next hb); clear hb)))

  refine Steady.region 15 (by kernel_rfl) (by kernel_rfl) (fun u => Hold.Hld _ _ u) HM.out.drew ?_
  simp only [List.take_succ_cons, List.take_zero, List.drop_succ_cons, List.drop_zero]
  refine Steady.take ?_ rfl (by intro u hu; go_simp; with_reducible rfl) ?_
  simp only [Act.put, List.setIfInBounds_toArray, List.set_cons_zero, List.set_cons_succ]
  refine Steady.take (.agg (Y).toArray) rfl (fun u hu => Hold.load_run hu 0 rfl rfl rfl (HXY.out) (by rw [HY.out.len]; exact shapeRow)) ?_
  simp only [Act.put, List.setIfInBounds_toArray, List.set_cons_zero, List.set_cons_succ]
  refine Steady.take ?_ rfl (by intro u hu; go_simp; with_reducible rfl) ?_
  simp only [Act.put, List.setIfInBounds_toArray, List.set_cons_zero, List.set_cons_succ]
  refine Steady.take (.string seed) rfl (fun u hu => Hold.load1_run hu 0 rfl rfl rfl (HX.out.seed2) (cellStr)) ?_
  simp only [Act.put, List.setIfInBounds_toArray, List.set_cons_zero, List.set_cons_succ]
  refine Steady.take ?_ rfl (by intro u hu; go_simp; with_reducible rfl) ?_
  simp only [Act.put, List.setIfInBounds_toArray, List.set_cons_zero, List.set_cons_succ]
  refine Steady.take ?_ rfl (by intro u hu; go_simp; with_reducible rfl) ?_
  simp only [Act.put, List.setIfInBounds_toArray, List.set_cons_zero, List.set_cons_succ]
  refine Steady.take (.int .i64 (leaf : Int)) rfl (fun u hu => Hold.load1_run hu 0 rfl rfl rfl (HX.out.next3) (cellInt)) ?_
  simp only [Act.put, List.setIfInBounds_toArray, List.set_cons_zero, List.set_cons_succ]
  refine Steady.take ?_ rfl (by intro u hu; go_simp; with_reducible rfl) ?_
  simp only [Act.put, List.setIfInBounds_toArray, List.set_cons_zero, List.set_cons_succ]
  refine Steady.take (.agg (Y).toArray) rfl (fun u hu => Hold.load_run hu 0 rfl rfl rfl (HXY.out) (by rw [HY.out.len]; exact shapeRow)) ?_
  simp only [Act.put, List.setIfInBounds_toArray, List.set_cons_zero, List.set_cons_succ]
  refine Steady.take ?_ rfl (by intro u hu; go_simp; with_reducible rfl) ?_
  simp only [Act.put, List.setIfInBounds_toArray, List.set_cons_zero, List.set_cons_succ]
  refine Steady.take ?_ rfl (by intro u hu; go_simp; with_reducible rfl) ?_
  simp only [Act.put, List.setIfInBounds_toArray, List.set_cons_zero, List.set_cons_succ]
  refine Steady.take (.int .i64 (leaf : Int)) rfl (fun u hu => Hold.load1_run hu 0 rfl rfl rfl (HX.out.next3) (cellInt)) ?_
  simp only [Act.put, List.setIfInBounds_toArray, List.set_cons_zero, List.set_cons_succ]
  refine Steady.take ?_ rfl (by intro u hu; go_simp; with_reducible rfl) ?_
  simp only [Act.put, List.setIfInBounds_toArray, List.set_cons_zero, List.set_cons_succ]
  refine Steady.call _ _ _ rfl ?_ (kept_if RT.out) ?_
  · intro u
    go_simp
  simp only [Act.put, List.setIfInBounds_toArray, List.set_cons_zero, List.set_cons_succ]
  refine Steady.call _ _ _ rfl ?_ (kept_if RG.out) ?_
  · intro u
    go_simp
  simp only [Act.put, List.setIfInBounds_toArray, List.set_cons_zero, List.set_cons_succ]
  refine Steady.nil ?_
  clear HM
  intro w HM
  replace HM := Lib.hid HM

  go_upto_region 8 with (fail)
  have hA := HA.out
  have hAT := HAT.out
  have hn1 := HN1.out
  have hn2 := HN2.out
  refine Steady.region 16 (by kernel_rfl) (by kernel_rfl) (fun u => Hold.Hld _ _ u) HM.out.drew ?_
  simp only [List.take_succ_cons, List.take_zero, List.drop_succ_cons, List.drop_zero]
  refine Steady.take ?_ rfl (by intro u hu; go_simp; with_reducible rfl) ?_
  simp only [Act.put, List.setIfInBounds_toArray, List.set_cons_zero, List.set_cons_succ]
  refine Steady.take (.int .i64 (leaf : Int)) rfl (fun u hu => Hold.load1_run hu 0 rfl rfl rfl (HX.out.next3) (cellInt)) ?_
  simp only [Act.put, List.setIfInBounds_toArray, List.set_cons_zero, List.set_cons_succ]
  refine Steady.call _ _ _ rfl ?_ (Hold.kept RN.out) ?_
  · intro u
    go_simp
  simp only [Act.put, List.setIfInBounds_toArray, List.set_cons_zero, List.set_cons_succ]
  refine Steady.take ?_ rfl (by intro u hu; go_simp; with_reducible rfl) ?_
  simp only [Act.put, List.setIfInBounds_toArray, List.set_cons_zero, List.set_cons_succ]
  refine Steady.take ?_ rfl (by intro u hu; go_simp; with_reducible rfl) ?_
  simp only [Act.put, List.setIfInBounds_toArray, List.set_cons_zero, List.set_cons_succ]
  refine Steady.take ?_ rfl (by intro u hu; go_simp; with_reducible rfl) ?_
  simp only [Act.put, List.setIfInBounds_toArray, List.set_cons_zero, List.set_cons_succ]
  refine Steady.take (.agg (Y).toArray) rfl (fun u hu => Hold.load_run hu 0 rfl rfl rfl (HXY.out) (by rw [HY.out.len]; exact shapeRow)) ?_
  simp only [Act.put, List.setIfInBounds_toArray, List.set_cons_zero, List.set_cons_succ]
  refine Steady.take ?_ rfl (by intro u hu; go_simp; with_reducible rfl) ?_
  simp only [Act.put, List.setIfInBounds_toArray, List.set_cons_zero, List.set_cons_succ]
  refine Steady.take (.string seed) rfl (fun u hu => Hold.load1_run hu 0 rfl rfl rfl (HX.out.seed2) (cellStr)) ?_
  simp only [Act.put, List.setIfInBounds_toArray, List.set_cons_zero, List.set_cons_succ]
  refine Steady.take ?_ rfl (by intro u hu; go_simp; with_reducible rfl) ?_
  simp only [Act.put, List.setIfInBounds_toArray, List.set_cons_zero, List.set_cons_succ]
  refine Steady.take ?_ rfl (by intro u hu; go_simp; with_reducible rfl) ?_
  simp only [Act.put, List.setIfInBounds_toArray, List.set_cons_zero, List.set_cons_succ]
  refine Steady.take (.int .i64 (leaf : Int)) rfl (fun u hu => Hold.load1_run hu 0 rfl rfl rfl (HX.out.next3) (cellInt)) ?_
  simp only [Act.put, List.setIfInBounds_toArray, List.set_cons_zero, List.set_cons_succ]
  refine Steady.call _ _ _ rfl ?_ (kept_if RP.out) ?_
  · intro u
    go_simp
  simp only [Act.put, List.setIfInBounds_toArray, List.set_cons_zero, List.set_cons_succ]
  refine Steady.take ?_ rfl (by intro u hu; go_simp; with_reducible rfl) ?_
  simp only [Act.put, List.setIfInBounds_toArray, List.set_cons_zero, List.set_cons_succ]
  refine Steady.take (.agg (X').toArray) rfl (fun u hu => Hold.load_run hu 2 rfl rfl rfl (Hold.Part.all _) (by rw [HX'.out.len]; exact signRow)) ?_
  simp only [Act.put, List.setIfInBounds_toArray, List.set_cons_zero, List.set_cons_succ]
  refine Steady.take ?_ rfl (by intro u hu; go_simp; with_reducible rfl) ?_
  simp only [Act.put, List.setIfInBounds_toArray, List.set_cons_zero, List.set_cons_succ]
  refine Steady.nil ?_
  clear HM
  intro w HM
  replace HM := Lib.hid HM

  go_wp2_with ((first
    | (with_reducible refine Hold.store HM.out 1 (v' := X') rfl rfl rfl rfl rfl (by rw [HXL'.out]; exact Nat.le_of_eq (Nat.zero_add _)) (Hold.lay_all HXL'.out.symm) (HX'.out.one) (by rw [HX'.out.len]; exact signRow) ?_; clear HM; intro w HM; simp only [List.set_cons_zero, List.set_cons_succ] at HM; replace HM := Lib.hid HM)))

  exact bodyPost_ret (results_tct rfl _ rfl rfl rfl (by rw [HX'.out.len]; exact signRow) (HM.out.range 1 rfl (Hold.Part.all _))) rfl ⟨rfl, HM.out.below⟩
end Go.Proofs.YtdhipdoaefdfeaaGreatDoor.Stp

namespace Go.Proofs.YtdhipdoaefdfeaaGreatDoor.Stp
open Go.RowKit Mur Sha Chn Grv
set_option maxRecDepth 100000

theorem check_no (n h : Int) (p msg s : ByteArray) (w : World) (hr : ¬ Right n h) :
    Calls Tryz.prog 45 #[.agg #[.int .i64 n, .int .i64 h], .string p, .string msg, .string s] w fun e w' => e = .returned (.bool false) ∧ Below w.heap.size w w' := by
  have R1 := Lib.hid (fun u => right_no n h hr u)
  have hB0 := (Below.refl w.heap.size w).alloc (Nat.le_refl _) (.cells #[.int .i64 n, .int .i64 h] 26)
  clear hr
  go_enter Tryz.func45, Tryz.ntmps45
  go_wp2_with fail
  refine (R1.out _).mono ?_
  rintro e w1 ⟨rfl, hb1⟩
  have HW1 := Lib.hid (hB0.trans (hb1.mono hB0.size))
  clear hb1 hB0
  go_wp2
  go_ret
  exact ⟨rfl, HW1.out⟩

theorem same_text (a b : ByteArray) : (a.toList == b.toList) = decide (a.data.toList = b.data.toList) := by
  rw [ByteArray.toList_eq, ByteArray.toList_eq, Bool.eq_iff_iff, decide_eq_true_eq, beq_iff_eq]
theorem drop_cut (s : ByteArray) (a n b : Nat) (hb : b = a + n) : s.extract a b = tx ((s.data.toList.drop a).take n) := Chn.piece_cut s a n b hb
theorem drop_all (s : ByteArray) (a : Nat) : s.extract a s.size = tx (s.data.toList.drop a) := by
  apply ByteArray.ext
  apply Array.ext'
  simp [ByteArray.data_extract, Array.toList_extract, List.extract]
  exact List.take_of_length_le (by rw [List.length_drop]; exact Nat.le_refl _)
theorem take_cut (s : ByteArray) (n : Nat) : s.extract 0 n = tx (s.data.toList.take n) := by
  have := drop_cut s 0 n n (by omega)
  rwa [List.drop_zero] at this

set_option maxHeartbeats 3200000 in
theorem check_any (N H : Nat) (p msg s : ByteArray) (B : Bool) (w : World) (hr : Right (N : Int) (H : Int)) (hs1 : s.size ≤ 140737488351232) (hm : msg.size ≤ 274877906944) (hB : B = check N H p.data.toList msg.data.toList s.data.toList) (hk : Consts w) :
    Calls Tryz.prog 45 #[.agg #[.int .i64 (N : Int), .int .i64 (H : Int)], .string p, .string msg, .string s] w fun e w' => e = .returned (.bool B) ∧ Below w.heap.size w w' := by
  have hN : N ≤ 32 := by have := hr.2.1; omega
  have hN2 : 2 ≤ N := by have := hr.1; omega
  have hH : H ≤ 8 := by have := hr.2.2.2; omega
  obtain ⟨L, hL⟩ : ∃ L : Nat, L = long N H := ⟨_, rfl⟩
  obtain ⟨E, hE⟩ : ∃ E : Nat, E = 2 + N * (2 * N + 3) := ⟨_, rfl⟩
  have hE32 : N * (2 * N + 3) ≤ 32 * 67 := Nat.mul_le_mul hN (by omega)
  have hH32 : N * H ≤ 32 * 8 := Nat.mul_le_mul hN hH
  have hLE : L = E + N * H := by rw [hL, hE]; exact long_split N H
  have R1 := Lib.hid (fun u => right_yes N H hr u)
  have R2 := Lib.hid (fun u => long_yes N H (L : Int) hr u (by rw [hL]))
  have hw8 : IntKind.i64.wrap (8 + (N : Int)) = 8 + (N : Int) := IntWalk.i64_in _ (by omega)
  have hB0 := (Below.refl w.heap.size w).alloc (Nat.le_refl _) (.cells #[.int .i64 (N : Int), .int .i64 (H : Int)] 26)
  have hc0 : (w.alloc (.cells #[.int .i64 (N : Int), .int .i64 (H : Int)] 26)).cell? ⟨w.heap.size, 0, none⟩ = some (.int .i64 (N : Int)) := by simp
  have hc1 : (w.alloc (.cells #[.int .i64 (N : Int), .int .i64 (H : Int)] 26)).cell? ⟨w.heap.size, 1, none⟩ = some (.int .i64 (H : Int)) := by simp
  have hlt : w.heap.size < (w.alloc (.cells #[.int .i64 (N : Int), .int .i64 (H : Int)] 26)).heap.size := by simp
  have HBV := Lib.hid hB
  have HW8 := Lib.hid hw8
  have HR := Lib.hid hr
  have HK := Lib.hid hk
  clear hB hw8 hr
  go_enter Tryz.func45, Tryz.ntmps45
  go_upto_region 1 with (fail)
  generalize w.alloc (.cells #[.int .i64 (N : Int), .int .i64 (H : Int)] 26) = wz at *
  have HC := Lib.hid (fun (u : World) (q : Below wz.heap.size wz u) => (⟨(q.cell (p := ⟨w.heap.size, 0, none⟩) hlt).trans hc0, (q.cell (p := ⟨w.heap.size, 1, none⟩) hlt).trans hc1, HK.out.below HK.out.1 (hB0.trans (q.mono hB0.size))⟩ :
    u.cell? ⟨w.heap.size, 0, none⟩ = some (.int .i64 (N : Int)) ∧ u.cell? ⟨w.heap.size, 1, none⟩ = some (.int .i64 (H : Int)) ∧ Consts u))
  have HB0 := Lib.hid hB0
  clear hB0 hlt hk
  go_wp2_with fail
  refine (R1.out _).mono ?_
  rintro e w1 ⟨rfl, hb1⟩
  have HW1 := Lib.hid hb1
  clear hb1 hc0 hc1
  obtain ⟨c0, c1, -⟩ := HC.out _ HW1.out
  have hw8 := HW8.out
  by_cases hp : p.size = 8 + N
  · have hd1 : ((p.size : Int) != 8 + (N : Int)) = false := by rw [hp]; simp
    by_cases hz : s.size = L
    · have hd2 : ((s.size : Int) != (L : Int)) = false := by rw [hz]; simp
      have HZ := Lib.hid hz
      have HP := Lib.hid hp
      have HL := Lib.hid hL
      have HE := Lib.hid hE
      have HLE := Lib.hid hLE
      clear hz hp hL hE hLE hE32 hH32
      go_wp2_with fail
      refine (R2.out _).mono ?_
      rintro e w2 ⟨rfl, hb2⟩
      have HW2 := Lib.hid (HW1.out.trans (hb2.mono HW1.out.size))
      clear hb2 c0 c1 hw8
      go_upto_region 3 with (fail)
      have hz := HZ.out
      have hp := HP.out
      have hL := HL.out
      have hE := HE.out
      have hLE := HLE.out
      have hE32 : N * (2 * N + 3) ≤ 32 * 67 := Nat.mul_le_mul hN (by omega)
      have hH32 : N * H ≤ 32 * 8 := Nat.mul_le_mul hN hH
      obtain ⟨PR, hPR⟩ : ∃ PR, PR = p.extract 0 8 := ⟨_, rfl⟩
      obtain ⟨PT, hPT⟩ : ∃ PT, PT = p.extract 8 p.size := ⟨_, rfl⟩
      obtain ⟨SG, hSG⟩ : ∃ SG, SG = s.extract 2 E := ⟨_, rfl⟩
      obtain ⟨ST, hST⟩ : ∃ ST, ST = s.extract E s.size := ⟨_, rfl⟩
      obtain ⟨lf, hlf⟩ : ∃ lf, lf = leafNum s.data.toList := ⟨_, rfl⟩
      have hPRt : PR = tx (p.data.toList.take 8) := by rw [hPR]; exact take_cut p 8
      have hPTt : PT = tx (p.data.toList.drop 8) := by rw [hPT]; exact drop_all p 8
      have hSGt : SG = tx ((s.data.toList.drop 2).take (N * (2 * N + 3))) := by rw [hSG]; exact drop_cut s 2 _ E hE
      have hSTt : ST = tx (s.data.toList.drop E) := by rw [hST]; exact drop_all s E
      have hpl : p.data.toList.length = p.size := rfl
      have hsl : s.data.toList.length = s.size := rfl
      have hPRs : PR.size = 8 := by rw [hPRt, tx_size, List.length_take]; omega
      have hPTs : PT.size = N := by rw [hPTt, tx_size, List.length_drop]; omega
      have hSGs : SG.size = N * (2 * N + 3) := by rw [hSGt, tx_size, List.length_take, List.length_drop]; omega
      have hSTs : ST.size = N * H := by rw [hSTt, tx_size, List.length_drop]; omega
      obtain ⟨D, hD⟩ : ∃ D, D = tx (says N (p.data.toList.take 8) (lf : Int) msg.data.toList) := ⟨_, rfl⟩
      obtain ⟨F, hF⟩ : ∃ F, F = tx (found N (p.data.toList.take 8) (lf : Int) ((s.data.toList.drop 2).take (N * (2 * N + 3))) (says N (p.data.toList.take 8) (lf : Int) msg.data.toList)) := ⟨_, rfl⟩
      have hFs : F.size = N := by rw [hF, tx_size]; exact value_length N _ hN
      have RL := Lib.hid (fun u => leafOf_any s u (by omega))
      rw [← hlf] at RL
      have RC := Lib.hid (fun u => count_yes N H HR.out u)
      have RT := Lib.hid (fun (u : World) (hu : Consts u) => says_any N H lf PR msg D u hN (by omega) (by rw [hD, hPRt]) hu)
      have RF := Lib.hid (fun (u : World) (hu : Consts u) => Chn.found_any N H PR SG D lf F u HR.out hSGs (by omega) (by rw [hF, hPRt, hSGt, hD]) hu)
      have hcl : ∃ V : ByteArray, (∀ u, Consts u → Calls Tryz.prog 67 #[.agg #[.int .i64 (N : Int), .int .i64 (H : Int)], .string PR, .int .i64 (lf : Int), .string F, .string ST] u fun e w' => e = .returned (.string V) ∧ Below u.heap.size u w') ∧ (B = decide (V.data.toList = PT.data.toList)) := by
        by_cases h2 : lf < 2 ^ H
        · refine ⟨tx (climb N PR.data.toList lf F.data.toList ST.data.toList H), fun u hu => climb_any N H lf PR F ST _ u HR.out h2 hSTs (by omega) rfl hu, ?_⟩
          rw [HBV.out, check, ← hlf, hPTt, hPRt, hF, hSTt, tx_list, tx_list, tx_list, tx_list, tx_list, hE]
          exact decide_eq_decide.2 ⟨fun g => g.2.2.2, fun g => ⟨hp, hz.trans hL, h2, g⟩⟩
        · refine ⟨⟨#[]⟩, fun u _ => climb_no N H lf PR F ST u (fun g => h2 ?_), ?_⟩
          · have g2 := g.2.2.1
            rw [Int.toNat_natCast] at g2
            have e : (2 : Int) ^ H = ((2 ^ H : Nat) : Int) := by rw [Int.natCast_pow]; rfl
            rw [e] at g2
            exact Int.ofNat_lt.1 g2
          · rw [HBV.out, check, ← hlf]
            refine decide_eq_decide.2 ⟨fun g => absurd g.2.2.1 h2, fun g => ?_⟩
            have := congrArg List.length g
            have e1 : PT.data.toList.length = PT.size := rfl
            rw [e1, hPTs] at this
            simp at this
            omega
      obtain ⟨V, hcl, hBe⟩ := hcl
      have RK := Lib.hid hcl
      have HBE := Lib.hid hBe
      have HPR := Lib.hid hPR.symm
      have HPT := Lib.hid hPT.symm
      have HSG := Lib.hid hSG.symm
      have HST := Lib.hid hST.symm
      have h8 : (8 : Int) ≤ p.size := by omega
      have hEs : (E : Int) ≤ s.size := by omega
      have h2E : (2 : Int) ≤ (E : Int) := by omega
      have hEn : (E : Int).toNat = E := by omega
      obtain ⟨C, hC⟩ : ∃ C, C = 2 * (N : Int) + 3 := ⟨_, rfl⟩
      rw [← hC] at RC
      have hm1 : (N : Int) * C = ((N * (2 * N + 3) : Nat) : Int) := by rw [hC, Int.natCast_mul]; rfl
      have hw1 : IntKind.i64.wrap ((N : Int) * C) = (E : Int) - 2 := by rw [hm1, IntWalk.i64_in _ (by omega)]; omega
      have hw2 : IntKind.i64.wrap (2 + ((E : Int) - 2)) = (E : Int) := by rw [show 2 + ((E : Int) - 2) = (E : Int) by omega]; exact IntWalk.i64_in _ (by omega)
      have HW3 := Lib.hid hw1
      have HW4 := Lib.hid hw2
      have HEN := Lib.hid hEn
      have HES := Lib.hid hEs
      have H2E := Lib.hid h2E
      have hpr := HPR.out
      have hpt := HPT.out
      clear hPR hPT hSG hST hPRt hPTt hSGt hSTt hpl hsl hPRs hPTs hSGs hSTs hD hF hFs hcl hBe hlf hC hm1 hw1 hw2 hEn hEs h2E hE hL hLE hE32 hH32 hN hN2 hH hp hz hd1 hd2 HZ HP HL HE HLE
      go_quiet (fail)
      have HW5 := Lib.hid (belowN HW2.out nq)
      generalize w2.drewN nq = w5 at *
      clear hpr hpt h8
      go_upto_region 4 with (fail)
      have HC5 := Lib.hid (fun (u : World) (q : Below w5.heap.size w5 u) => HC.out u (HW5.out.trans (q.mono HW5.out.size)))
      have hw3 := HW3.out
      have hw4 := HW4.out
      refine Steady.region 9 (by kernel_rfl) (by kernel_rfl) (fun u => Below w5.heap.size w5 u) ((Below.refl _ _).drew) ?_
      simp only [List.take_succ_cons, List.take_zero, List.drop_succ_cons, List.drop_zero]
      refine Steady.take ?_ rfl (by intro u hu; go_simp; with_reducible rfl) ?_
      simp only [Act.put, List.setIfInBounds_toArray, List.set_cons_zero, List.set_cons_succ]
      refine Steady.call _ _ _ rfl ?_ (Steady.kept RL.out) ?_
      · intro u
        go_simp
      simp only [Act.put, List.setIfInBounds_toArray, List.set_cons_zero, List.set_cons_succ]
      refine Steady.take ?_ rfl (by intro u hu; go_simp; with_reducible rfl) ?_
      simp only [Act.put, List.setIfInBounds_toArray, List.set_cons_zero, List.set_cons_succ]
      refine Steady.take ?_ rfl (by intro u hu; obtain ⟨c0, c1, -⟩ := HC5.out u hu; go_simp; with_reducible rfl) ?_
      simp only [Act.put, List.setIfInBounds_toArray, List.set_cons_zero, List.set_cons_succ]
      refine Steady.take ?_ rfl (by intro u hu; obtain ⟨c0, c1, -⟩ := HC5.out u hu; go_simp; with_reducible rfl) ?_
      simp only [Act.put, List.setIfInBounds_toArray, List.set_cons_zero, List.set_cons_succ]
      refine Steady.call _ _ _ rfl ?_ (Steady.kept RC.out) ?_
      · intro u
        go_simp
      simp only [Act.put, List.setIfInBounds_toArray, List.set_cons_zero, List.set_cons_succ]
      refine Steady.take ?_ rfl (by intro u hu; go_simp; with_reducible rfl) ?_
      simp only [Act.put, List.setIfInBounds_toArray, List.set_cons_zero, List.set_cons_succ]
      refine Steady.take ?_ rfl (by intro u hu; go_simp; with_reducible rfl) ?_
      simp only [Act.put, List.setIfInBounds_toArray, List.set_cons_zero, List.set_cons_succ]
      refine Steady.take ?_ rfl (by intro u hu; go_simp; with_reducible rfl) ?_
      simp only [Act.put, List.setIfInBounds_toArray, List.set_cons_zero, List.set_cons_succ]
      refine Steady.nil ?_
      intro w6 hu
      have HW6 := Lib.hid (HW5.out.trans (hu.mono HW5.out.size))
      clear hu hw3 hw4 HC5
      go_upto_region 5 with (fail)
      have HC6 := Lib.hid (fun (u : World) (q : Below w6.heap.size w6 u) => HC.out u (HW6.out.trans (q.mono HW6.out.size)))
      have ST6 := Lib.hid (fun (u : World) (q : Below w6.heap.size w6 u) => RT.out u (HC6.out u q).2.2)
      have SF6 := Lib.hid (fun (u : World) (q : Below w6.heap.size w6 u) => RF.out u (HC6.out u q).2.2)
      have hen := HEN.out
      have hes := HES.out
      have h2e := H2E.out
      have hsg := HSG.out
      refine Steady.region 12 (by kernel_rfl) (by kernel_rfl) (fun u => Below w6.heap.size w6 u) ((Below.refl _ _).drew) ?_
      simp only [List.take_succ_cons, List.take_zero, List.drop_succ_cons, List.drop_zero]
      refine Steady.take ?_ rfl (by intro u hu; obtain ⟨c0, c1, -⟩ := HC6.out u hu; go_simp; with_reducible rfl) ?_
      simp only [Act.put, List.setIfInBounds_toArray, List.set_cons_zero, List.set_cons_succ]
      refine Steady.take ?_ rfl (by intro u hu; go_simp; with_reducible rfl) ?_
      simp only [Act.put, List.setIfInBounds_toArray, List.set_cons_zero, List.set_cons_succ]
      refine Steady.take ?_ rfl (by intro u hu; go_simp; with_reducible rfl) ?_
      simp only [Act.put, List.setIfInBounds_toArray, List.set_cons_zero, List.set_cons_succ]
      refine Steady.take ?_ rfl (by intro u hu; go_simp; with_reducible rfl) ?_
      simp only [Act.put, List.setIfInBounds_toArray, List.set_cons_zero, List.set_cons_succ]
      refine Steady.take ?_ rfl (by intro u hu; go_simp; with_reducible rfl) ?_
      simp only [Act.put, List.setIfInBounds_toArray, List.set_cons_zero, List.set_cons_succ]
      refine Steady.take ?_ rfl (by intro u hu; go_simp; with_reducible rfl) ?_
      simp only [Act.put, List.setIfInBounds_toArray, List.set_cons_zero, List.set_cons_succ]
      refine Steady.take ?_ rfl (by intro u hu; obtain ⟨c0, c1, -⟩ := HC6.out u hu; go_simp; with_reducible rfl) ?_
      simp only [Act.put, List.setIfInBounds_toArray, List.set_cons_zero, List.set_cons_succ]
      refine Steady.take ?_ rfl (by intro u hu; go_simp; with_reducible rfl) ?_
      simp only [Act.put, List.setIfInBounds_toArray, List.set_cons_zero, List.set_cons_succ]
      refine Steady.take ?_ rfl (by intro u hu; go_simp; with_reducible rfl) ?_
      simp only [Act.put, List.setIfInBounds_toArray, List.set_cons_zero, List.set_cons_succ]
      refine Steady.take ?_ rfl (by intro u hu; go_simp; with_reducible rfl) ?_
      simp only [Act.put, List.setIfInBounds_toArray, List.set_cons_zero, List.set_cons_succ]
      refine Steady.call _ _ _ rfl ?_ (keptIf ST6.out) ?_
      · intro u
        go_simp
      simp only [Act.put, List.setIfInBounds_toArray, List.set_cons_zero, List.set_cons_succ]
      refine Steady.call _ _ _ rfl ?_ (keptIf SF6.out) ?_
      · intro u
        go_simp
      simp only [Act.put, List.setIfInBounds_toArray, List.set_cons_zero, List.set_cons_succ]
      refine Steady.nil ?_
      intro w7 hu
      have HW7 := Lib.hid (HW6.out.trans (hu.mono HW6.out.size))
      clear hu HC6 hsg
      go_upto_region 6 with (fail)
      have HC7 := Lib.hid (fun (u : World) (q : Below w7.heap.size w7 u) => HC.out u (HW7.out.trans (q.mono HW7.out.size)))
      have SK7 := Lib.hid (fun (u : World) (q : Below w7.heap.size w7 u) => RK.out u (HC7.out u q).2.2)
      have hst := HST.out
      refine Steady.region 10 (by kernel_rfl) (by kernel_rfl) (fun u => Below w7.heap.size w7 u) ((Below.refl _ _).drew) ?_
      simp only [List.take_succ_cons, List.take_zero, List.drop_succ_cons, List.drop_zero]
      refine Steady.take ?_ rfl (by intro u hu; obtain ⟨c0, c1, -⟩ := HC7.out u hu; go_simp; with_reducible rfl) ?_
      simp only [Act.put, List.setIfInBounds_toArray, List.set_cons_zero, List.set_cons_succ]
      refine Steady.take ?_ rfl (by intro u hu; go_simp; with_reducible rfl) ?_
      simp only [Act.put, List.setIfInBounds_toArray, List.set_cons_zero, List.set_cons_succ]
      refine Steady.take ?_ rfl (by intro u hu; go_simp; with_reducible rfl) ?_
      simp only [Act.put, List.setIfInBounds_toArray, List.set_cons_zero, List.set_cons_succ]
      refine Steady.take ?_ rfl (by intro u hu; go_simp; with_reducible rfl) ?_
      simp only [Act.put, List.setIfInBounds_toArray, List.set_cons_zero, List.set_cons_succ]
      refine Steady.take ?_ rfl (by intro u hu; go_simp; with_reducible rfl) ?_
      simp only [Act.put, List.setIfInBounds_toArray, List.set_cons_zero, List.set_cons_succ]
      refine Steady.take ?_ rfl (by intro u hu; go_simp; with_reducible rfl) ?_
      simp only [Act.put, List.setIfInBounds_toArray, List.set_cons_zero, List.set_cons_succ]
      refine Steady.take ?_ rfl (by intro u hu; go_simp; with_reducible rfl) ?_
      simp only [Act.put, List.setIfInBounds_toArray, List.set_cons_zero, List.set_cons_succ]
      refine Steady.call _ _ _ rfl ?_ (keptIf SK7.out) ?_
      · intro u
        go_simp
      simp only [Act.put, List.setIfInBounds_toArray, List.set_cons_zero, List.set_cons_succ]
      refine Steady.take ?_ rfl (by intro u hu; go_simp; with_reducible rfl) ?_
      simp only [Act.put, List.setIfInBounds_toArray, List.set_cons_zero, List.set_cons_succ]
      refine Steady.take ?_ rfl (by intro u hu; go_simp; with_reducible rfl) ?_
      simp only [Act.put, List.setIfInBounds_toArray, List.set_cons_zero, List.set_cons_succ]
      refine Steady.nil ?_
      intro w8 hu
      have HW8' := Lib.hid (HB0.out.trans ((HW7.out.trans (hu.mono HW7.out.size)).mono HB0.out.size))
      clear hu
      go_wp2
      go_ret
      rw [HBE.out, ← same_text]
      exact ⟨rfl, HW8'.out⟩
    · have hd2 : ((s.size : Int) != (L : Int)) = true := by simp; omega
      have HV := Lib.hid (show false = B by rw [HBV.out, check]; exact (decide_eq_false (fun g => hz (by rw [hL]; exact g.2.1))).symm)
      clear hz hp hL hE hLE hE32 hH32 hN hN2 hH
      go_wp2_with fail
      refine (R2.out _).mono ?_
      rintro e w2 ⟨rfl, hb2⟩
      have HW2 := Lib.hid (HW1.out.trans (hb2.mono HW1.out.size))
      clear hb2 c0 c1
      go_wp2
      go_ret
      rw [← HV.out]
      exact ⟨rfl, HB0.out.trans (HW2.out.mono HB0.out.size)⟩
  · have hd1 : ((p.size : Int) != 8 + (N : Int)) = true := by simp; omega
    have HV := Lib.hid (show false = B by rw [HBV.out, check]; exact (decide_eq_false (fun g => hp g.1)).symm)
    clear hp hL hE hLE hE32 hH32 hN hN2 hH
    go_wp2
    go_ret
    rw [← HV.out]
    exact ⟨rfl, HB0.out.trans (HW1.out.mono HB0.out.size)⟩
end Go.Proofs.YtdhipdoaefdfeaaGreatDoor.Stp
