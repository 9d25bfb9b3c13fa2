import Derived.Test.YtcafhmlpmbkhkaaGreatDoorW33
import Derived.Deep.RegionHeld3
import Derived.Test.YtcafhmlpmbkhkaaGreatDoorW07
import Derived.Lib.ItoaMem
namespace Go.Proofs.YtcafhmlpmbkhkaaGreatDoor.Dy
open Go.ChangeShapes Go.WideShapes Go.ChangeAt Go.RowKit
set_option linter.unusedVariables false
set_option linter.unusedSimpArgs false
/-- a digit's byte -/
def ch (c : Nat) : UInt8 := UInt8.ofNat (48 + c)
/-- two digits, four digits -/
def p2 (n : Nat) : List UInt8 := [ch (n / 10), ch (n % 10)]
def p4 (n : Nat) : List UInt8 := [ch (n / 1000), ch (n / 100 % 10), ch (n / 10 % 10), ch (n % 10)]
theorem dec_small {u : Nat} (h : u < 10) : Lib.decDigits u = [ch u] := Lib.decDigits_one h
theorem dec_step {u : Nat} (h : ¬ u < 10) : Lib.decDigits u = Lib.decDigits (u / 10) ++ [ch (u % 10)] := by
  rw [Lib.decDigits, dif_neg h]; rfl
theorem ch0 : ch 0 = 48 := by decide
theorem dec_two {u : Nat} (h1 : ¬ u < 10) (h2 : u < 100) : Lib.decDigits u = [ch (u / 10), ch (u % 10)] := by
  rw [dec_step h1, dec_small (by omega)]; rfl
theorem dec_three {u : Nat} (h1 : ¬ u < 100) (h2 : u < 1000) : Lib.decDigits u = [ch (u / 100), ch (u / 10 % 10), ch (u % 10)] := by
  rw [dec_step (by omega), dec_two (by omega) (by omega), Nat.div_div_eq_div_mul]; rfl
theorem dec_four {u : Nat} (h1 : ¬ u < 1000) (h2 : u < 10000) : Lib.decDigits u = [ch (u / 1000), ch (u / 100 % 10), ch (u / 10 % 10), ch (u % 10)] := by
  rw [dec_step (by omega), dec_three (by omega) (by omega), Nat.div_div_eq_div_mul, Nat.div_div_eq_div_mul]; rfl
theorem pad2 (n : Nat) (h : n < 100) : (Lib.decDigits n).length ≤ 2 ∧ List.replicate (2 - (Lib.decDigits n).length) 48 ++ Lib.decDigits n = p2 n := by
  unfold p2
  by_cases h1 : n < 10
  · rw [dec_small h1, show n / 10 = 0 by omega, show n % 10 = n by omega, ch0]
    exact ⟨by simp, rfl⟩
  · rw [dec_two h1 h]
    exact ⟨by simp, rfl⟩
theorem pad4 (n : Nat) (h : n < 10000) : (Lib.decDigits n).length ≤ 4 ∧ List.replicate (4 - (Lib.decDigits n).length) 48 ++ Lib.decDigits n = p4 n := by
  unfold p4
  by_cases h1 : n < 10
  · rw [dec_small h1, show n / 1000 = 0 by omega, show n / 100 % 10 = 0 by omega, show n / 10 % 10 = 0 by omega, show n % 10 = n by omega, ch0]
    exact ⟨by simp, rfl⟩
  · by_cases h2 : n < 100
    · rw [dec_two h1 h2, show n / 1000 = 0 by omega, show n / 100 % 10 = 0 by omega, show n / 10 % 10 = n / 10 by omega, ch0]
      exact ⟨by simp, rfl⟩
    · by_cases h3 : n < 1000
      · rw [dec_three h2 h3, show n / 1000 = 0 by omega, show n / 100 % 10 = n / 100 by omega, ch0]
        exact ⟨by simp, rfl⟩
      · rw [dec_four h3 h]
        exact ⟨by simp, rfl⟩
theorem dec_pos (u : Nat) : 1 ≤ (Lib.decDigits u).length := by
  by_cases h : u < 10
  · rw [dec_small h]; simp
  · rw [dec_step h]; simp
theorem bapp (a b : List UInt8) : (⟨a.toArray⟩ : ByteArray) ++ ⟨b.toArray⟩ = ⟨(a ++ b).toArray⟩ := by
  apply ByteArray.ext
  simp [ByteArray.data_append]
/-- the library's table of powers lies in its variable -/
def Pow (w : World) : Prop := Lib.TabIs Tryz.prog w "internal/strconv.uint64pow10" .u64 Lib.pow10Tab
theorem Pow.below {g : Nat} (hg : Tryz.prog.globalNamed "internal/strconv.uint64pow10" = some g) {w w' : World} (h : Pow w) (hb : Below w.heap.size w w') : Pow w' := by
  unfold Pow Lib.TabIs World.var? at h ⊢
  rw [hg] at h ⊢
  simp only [Option.bind_some] at h ⊢
  have hlt : g < w.heap.size := by
    rcases Nat.lt_or_ge g w.heap.size with h' | h'
    · exact h'
    · rw [Array.getElem?_eq_none h'] at h; cases h
  rw [hb.block g hlt]
  exact h
theorem below_gr (w : World) (k : Nat) (os : Array Obj) : Below w.heap.size w (Sort.grow (w.drewN k) os) := by
  refine ⟨rfl, rfl, rfl, ?_, ?_⟩
  · show w.heap.size ≤ (w.heap ++ os).size
    simp
  · intro j hj
    show (w.heap ++ os)[j]? = _
    rw [Array.getElem?_append_left hj]
theorem rep_at (z : Int) (c : Nat) (hz : z = c) (hc : c ≤ 7) (w : World) : Calls Tryz.prog 187 #[.string ⟨#[48]⟩, .int .i64 z] w fun e w' => e = .returned (.string ⟨(List.replicate c (48 : UInt8)).toArray⟩) ∧ Below w.heap.size w w' := by
  subst hz
  have h := Tryz.strings_Repeat ⟨#[48]⟩ c w (by omega) (by show 1 * c ≤ _; omega)
  have e : Lib.repeatL [48] c = List.replicate c 48 := by
    have := Lib.repeatL_replicate 48 1 c
    simpa using this
  rw [← e]
  exact h
theorem itoa_at (n : Nat) (hn : n ≤ 9999) (w : World) (hP : Pow w) : Calls Tryz.prog 167 #[.int .i64 (n : Int)] w fun e w' => e = .returned (.string ⟨(Lib.decDigits n).toArray⟩) ∧ Below w.heap.size w w' := by
  refine (Tryz.strconv_Itoa n (by omega) (by omega) w hP).mono ?_
  rintro e w' ⟨rfl, k, os, rfl⟩
  refine ⟨?_, below_gr _ _ _⟩
  rw [Lib.itoa, if_neg (by omega)]
  rfl
set_option maxHeartbeats 1000000 in
theorem padded_any (n k : Nat) (L : List UInt8) (hn : n ≤ 9999) (hk : k ≤ 4) (hL : Hid (Lib.decDigits n = L)) (h1 : 1 ≤ L.length) (h2 : L.length ≤ k) (w : World) (hP : Pow w) :
    Calls Tryz.prog 212 #[.int .i64 (n : Int), .int .i64 (k : Int)] w fun e w' => e = .returned (.string ⟨(List.replicate (k - L.length) 48 ++ L).toArray⟩) ∧ Below w.heap.size w w' := by
  have A := hide (itoa_at n hn w hP)
  rw [unhide hL] at A
  clear hP
  go_enter Tryz.func212, Tryz.ntmps212
  go_wp2_with fail
  refine (unhide A).mono ?_
  rintro e w1 ⟨rfl, c1⟩
  have C1 := hide c1
  clear c1
  go_wp2_with fail
  refine (rep_at _ (k - L.length) (by omega) (by omega) _).mono ?_
  rintro e w2 ⟨rfl, c2⟩
  have C2 := hide ((unhide C1).trans (c2.mono (unhide C1).size))
  clear c2
  obtain ⟨R, hR⟩ : ∃ R, List.replicate (k - L.length) (48 : UInt8) = R := ⟨_, rfl⟩
  have hRl : R.length ≤ 4 := by rw [← hR, List.length_replicate]; omega
  rw [hR]
  have HR := hide hR
  clear hR
  go_wp2
  go_ret
  exact ⟨congrArg Ending.returned (congrArg Value.string ((bapp R L).trans (by rw [unhide HR]))), unhide C2⟩
theorem padded2 (n : Nat) (hn : n < 100) (w : World) (hP : Pow w) : Calls Tryz.prog 212 #[.int .i64 (n : Int), .int .i64 2] w fun e w' => e = .returned (.string ⟨(p2 n).toArray⟩) ∧ Below w.heap.size w w' := by
  have h := pad2 n hn
  have := padded_any n 2 _ (by omega) (by omega) rfl (dec_pos n) h.1 w hP
  rw [h.2] at this
  exact this
theorem padded4 (n : Nat) (hn : n < 10000) (w : World) (hP : Pow w) : Calls Tryz.prog 212 #[.int .i64 (n : Int), .int .i64 4] w fun e w' => e = .returned (.string ⟨(p4 n).toArray⟩) ∧ Below w.heap.size w w' := by
  have h := pad4 n hn
  have := padded_any n 4 _ (by omega) (by omega) rfl (dec_pos n) h.1 w hP
  rw [h.2] at this
  exact this
theorem pow_no : Tryz.prog.globalNamed "internal/strconv.uint64pow10" = some 4 := by kernel_rfl
/-- a date's text -/
def tx (y m d : Nat) : List UInt8 := p4 y ++ [45] ++ p2 m ++ [45] ++ p2 d
/-- the padded text of a number at a width of 4 or 2 -/
def pz (n : Nat) (k : Int) : List UInt8 := if k = 4 then p4 n else p2 n
theorem pz_len (n : Nat) (k : Int) : (pz n k).length ≤ 4 := by unfold pz; split <;> simp [p4, p2]
theorem padded_all (n : Nat) (k : Int) (hk : k = 4 ∧ n < 10000 ∨ k = 2 ∧ n < 100) (w : World) (hP : Pow w) : Calls Tryz.prog 212 #[.int .i64 (n : Int), .int .i64 k] w fun e w' => e = .returned (.string ⟨(pz n k).toArray⟩) ∧ Below w.heap.size w w' := by
  rcases hk with ⟨rfl, hk⟩ | ⟨rfl, hk⟩
  · exact padded4 n hk w hP
  · exact padded2 n hk w hP
theorem cell_lt {w : World} {a : Addr} {v : Value} (h : w.cell? a = some v) : a.block < w.heap.size := by
  rcases Nat.lt_or_ge a.block w.heap.size with h' | h'
  · exact h'
  · simp [World.cell?, Array.getElem?_eq_none h'] at h
theorem keepS {W w1 : World} {b : Nat} {x y z : Value} (hb : Below W.heap.size W w1) (h : W.cell? ⟨b, 0, none⟩ = some x ∧ W.cell? ⟨b, 1, none⟩ = some y ∧ W.cell? ⟨b, 2, none⟩ = some z) : w1.cell? ⟨b, 0, none⟩ = some x ∧ w1.cell? ⟨b, 1, none⟩ = some y ∧ w1.cell? ⟨b, 2, none⟩ = some z :=
  ⟨(hb.cell (cell_lt h.1)).trans h.1, (hb.cell (cell_lt h.2.1)).trans h.2.1, (hb.cell (cell_lt h.2.2)).trans h.2.2⟩
theorem tx_glue (y m d : Nat) : (⟨(pz y 4).toArray⟩ : ByteArray) ++ ⟨#[45]⟩ ++ ⟨(pz m 2).toArray⟩ ++ ⟨#[45]⟩ ++ ⟨(pz d 2).toArray⟩ = ⟨(tx y m d).toArray⟩ := by
  apply ByteArray.ext
  simp [ByteArray.data_append, tx, pz]
theorem retSI {a b : ByteArray} {c d : Int} (h : a = b) (k : c = d) : Ending.returned (.tuple #[.string a, .int .i64 c]) = .returned (.tuple #[.string b, .int .i64 d]) := by rw [h, k]
theorem bd3 (w : World) (o1 o2 o3 : Obj) : Below w.heap.size w (((w.alloc o1).alloc o2).alloc o3).drew := by repeat (first | exact Below.refl _ _ | apply Below.drew | apply below_drewN | apply bal)
theorem new3 (w : World) (o1 o2 : Obj) (a b c : Int) : (((w.alloc o1).alloc o2).alloc (.cells #[.int .i64 a, .int .i64 b, .int .i64 c] 251)).drew.cell? ⟨w.heap.size + 1 + 1, 0, none⟩ = some (.int .i64 a) ∧ (((w.alloc o1).alloc o2).alloc (.cells #[.int .i64 a, .int .i64 b, .int .i64 c] 251)).drew.cell? ⟨w.heap.size + 1 + 1, 1, none⟩ = some (.int .i64 b) ∧ (((w.alloc o1).alloc o2).alloc (.cells #[.int .i64 a, .int .i64 b, .int .i64 c] 251)).drew.cell? ⟨w.heap.size + 1 + 1, 2, none⟩ = some (.int .i64 c) := by
  have hs : w.heap.size + 1 + 1 = ((w.alloc o1).alloc o2).heap.size := by rw [World.size_alloc, World.size_alloc]
  rw [hs]
  generalize (w.alloc o1).alloc o2 = W
  refine ⟨?_, ?_, ?_⟩ <;> simp
set_option maxHeartbeats 2000000 in
theorem dprint_ok (y m d n : Nat) (w : World) (hM : Mon w) (hP : Pow w) (h : Dat y m d n) :
    Calls Tryz.prog 171 #[.int .i64 n] w fun e w' => e = .returned (.tuple #[.string ⟨(tx y m d).toArray⟩, .int .i64 0]) ∧ Below w.heap.size w w' := by
  have h6 := h.lo
  have h7 := h.hi
  have h2 := h.y2
  have h4 := h.m2
  have h5 : d ≤ 31 := Nat.le_trans h.d2 (dm_hi _ _)
  have l1 := pz_len y 4
  have l2 := pz_len m 2
  have l3 := pz_len d 2
  have q1 : ¬ 9223372036854775807 < (pz y 4).length + 1 := by omega
  have q2 : ¬ 9223372036854775807 < (pz y 4).length + 1 + (pz m 2).length := by omega
  have q3 : ¬ 9223372036854775807 < (pz y 4).length + 1 + (pz m 2).length + 1 := by omega
  have q4 : ¬ 9223372036854775807 < (pz y 4).length + 1 + (pz m 2).length + 1 + (pz d 2).length := by omega
  have PW := hide (fun W (hW : Below w.heap.size w W) => hP.below pow_no hW)
  have HM := hide hM
  have H := hide h
  clear h hM hP
  go_enter Tryz.func171, Tryz.ntmps171
  go_wp2_with (first | (go_at_call 210; refine (isday_yes _ _ (by omega) (by omega)).mono ?_; rintro e w0 ⟨rfl, hw⟩; rw [hw]; clear hw) | (go_at_call 211; refine (date_any y m d n _ (unhide HM) (unhide H)).mono ?_; rintro e w0 ⟨rfl, hw⟩; rw [hw]; clear hw))
  go_region_held3 (fun w' => w'.cell? ⟨w.heap.size + 1 + 1, 0, none⟩ = some (.int .i64 (y : Int)) ∧ w'.cell? ⟨w.heap.size + 1 + 1, 1, none⟩ = some (.int .i64 (m : Int)) ∧ w'.cell? ⟨w.heap.size + 1 + 1, 2, none⟩ = some (.int .i64 (d : Int))) (first | assumption | exact new3 _ _ _ _ _ _ | go_keep)
    (first | (go_at_call 212; refine (padded_all _ _ (by omega) _ (unhide PW _ (unhide C2))).mono ?_; rintro e w3 ⟨rfl, hb3⟩; have C3 := hide ((unhide C2).trans (hb3.mono (unhide C2).size)); have K3 := keepS hb3 (unhide D2); clear hb3) | (go_at_call 212; refine (padded_all _ _ (by omega) _ (unhide PW _ (unhide C1))).mono ?_; rintro e w2 ⟨rfl, hb2⟩; have C2 := hide ((unhide C1).trans (hb2.mono (unhide C1).size)); have K2 := keepS hb2 (unhide D1); have D2 := hide K2; clear hb2) | (go_at_call 212; refine (padded_all _ _ (by omega) _ (unhide PW _ (bd3 _ _ _ _))).mono ?_; rintro e w1 ⟨rfl, hb1⟩; have C1 := hide ((bd3 _ _ _ _).trans (hb1.mono (bd3 w _ _ _).size)); have K1 := keepS (b := w.heap.size + 1 + 1) (x := .int .i64 (y : Int)) (y := .int .i64 (m : Int)) (z := .int .i64 (d : Int)) hb1 (new3 _ _ _ _ _ _); have D1 := hide K1; clear hb1))
  all_goals
    go_wp2
    go_ret2
    exact ⟨retSI (tx_glue y m d) rfl, unhide C3⟩
set_option maxHeartbeats 1000000 in
theorem dprint_bad (n : Int) (w : World) (h : n < 1 ∨ 3652059 < n) : Calls Tryz.prog 171 #[.int .i64 n] w fun e w' => e = .returned (.tuple #[.string ⟨#[]⟩, .int .i64 20]) ∧ Below w.heap.size w w' := by
  have H := hide h
  clear h
  go_enter Tryz.func171, Tryz.ntmps171
  go_wp2_with (first | (go_at_call 210; refine (isday_no _ _ (unhide H)).mono ?_; rintro e w0 ⟨rfl, hw⟩; rw [hw]; clear hw))
  go_ret2
  exact ⟨rfl, by repeat (first | exact Below.refl _ _ | apply Below.drew | apply below_drewN | apply bal)⟩
end Go.Proofs.YtcafhmlpmbkhkaaGreatDoor.Dy
namespace Go.Proofs.YtcafhmlpmbkhkaaGreatDoor.Dy
open Go.ChangeShapes Go.WideShapes Go.ChangeAt Go.RowKit
set_option linter.unusedVariables false
set_option linter.unusedSimpArgs false
/-- so many last digits -/
def rdg : Nat → Nat → List UInt8
  | 0, _ => []
  | k + 1, n => rdg k (n / 10) ++ [ch (n % 10)]
theorem rdg2 (n : Nat) (h : n < 100) : rdg 2 n = p2 n := by
  simp [rdg, p2]
  rw [show n / 10 % 10 = n / 10 by omega]
theorem rdg4 (n : Nat) (h : n < 10000) : rdg 4 n = p4 n := by
  simp [rdg, p4]
  rw [show n / 10 / 10 / 10 % 10 = n / 1000 by omega, show n / 10 / 10 % 10 = n / 100 % 10 by omega]
  simp
theorem conv0 (c : Nat) (hc : c < 10) (W : World) : (convert 196 9 (.slice (some ⟨W.heap.size, 0, none⟩) 1 1)).run Tryz.prog (W.alloc (.cells #[.int .u8 (48 + (c : Int))] 5)) = .ok (.string ⟨#[ch c]⟩) (W.alloc (.cells #[.int .u8 (48 + (c : Int))] 5)) := by
  have h := run_convert_bytes_back (P := Tryz.prog) (W.alloc (.cells #[.int .u8 (48 + (c : Int))] 5)) 196 9 5 ⟨W.heap.size, 0, none⟩ 1 [ch c] Tryz.underlying196 Tryz.underlying5 Tryz.underlying9 (fun j hj => by
    have : j = 0 := by simpa using hj
    subst this
    simp [Addr.add, ch]
    omega)
  exact h
theorem conv1 (x : Nat) (W : World) : (convert 196 9 (.slice (some ⟨W.heap.size, 0, none⟩) 1 1)).run Tryz.prog (W.alloc (.cells #[.int .u8 (48 + (x : Int) % 10)] 5)) = .ok (.string ⟨#[ch (x % 10)]⟩) (W.alloc (.cells #[.int .u8 (48 + (x : Int) % 10)] 5)) := by
  have h := conv0 (x % 10) (by omega) W
  rw [show ((x % 10 : Nat) : Int) = (x : Int) % 10 by omega] at h
  exact h
set_option maxHeartbeats 2000000 in
theorem rdig (n many : Nat) (w : World) (h1 : n ≤ 9999) (h2 : many ≤ 4) : Calls Tryz.prog 214 #[.int .i64 n, .int .i64 many] w fun e w' => e = .returned (.string ⟨(rdg many n).toArray⟩) ∧ Below w.heap.size w w' := by
  go_enter Tryz.func214, Tryz.ntmps214
  go_wp2
  go_loopw [0, 5, 6] (fun vn vs vi wr => ∃ (k x : Nat) (s : List UInt8), k ≤ many ∧ vi = .int .i64 k ∧ vn = .int .i64 x ∧ vs = .string ⟨s.toArray⟩ ∧ x ≤ 9999 ∧ s.length = k ∧ rdg (many - k) x ++ s = rdg many n ∧ Below w.heap.size w wr) (fun _ _ i _ => many - (RowKit.intOf i).toNat)
  case atStart => exact ⟨0, n, [], by omega, rfl, rfl, rfl, h1, rfl, by simp, Below.refl _ _⟩
  case round =>
    rename_i wr
    obtain ⟨k, x, s, hk, rfl, rfl, rfl, hx, hl, hd, hb⟩ := hrel
    have HB := hide hb
    by_cases hlt : k < many
    · have hd2 : rdg (many - (k + 1)) (x / 10) ++ ch (x % 10) :: s = rdg many n := by
        rw [← hd, show many - k = (many - (k + 1)) + 1 by omega]
        simp [rdg]
      have HD := hide hd2
      have hcv := conv1 x wr
      have hI : (k : Int) < (many : Int) := by omega
      have hl2 : s.length ≤ 4 := by omega
      have HL := hide hl
      clear hd hd2 hb hl
      go_wp2
      refine ⟨⟨k + 1, x / 10, ch (x % 10) :: s, by omega, by go_num, by go_num, congrArg Value.string (bapp [ch (x % 10)] s), by omega, ?_, unhide HD, bal (unhide HB) _⟩, ?_⟩
      · simp [unhide HL]
      · simp [RowKit.intOf]
        omega
    · have hkm : k = many := by omega
      subst hkm
      rw [Nat.sub_self, rdg, List.nil_append] at hd
      have HD := hide hd
      have hI : ¬ (k : Int) < (k : Int) := by omega
      clear hd hb
      go_wp2
      go_ret
      exact ⟨congrArg Ending.returned (congrArg (fun l : List UInt8 => Value.string ⟨l.toArray⟩) (unhide HD)), unhide HB⟩
end Go.Proofs.YtcafhmlpmbkhkaaGreatDoor.Dy
namespace Go.Proofs.YtcafhmlpmbkhkaaGreatDoor.Dy
open Go.ChangeShapes Go.WideShapes Go.ChangeAt Go.RowKit
set_option linter.unusedVariables false
set_option linter.unusedSimpArgs false
theorem rdig_all (n : Nat) (k : Int) (hk : k = 4 ∧ n < 10000 ∨ k = 2 ∧ n < 100) (w : World) : Calls Tryz.prog 214 #[.int .i64 (n : Int), .int .i64 k] w fun e w' => e = .returned (.string ⟨(pz n k).toArray⟩) ∧ Below w.heap.size w w' := by
  rcases hk with ⟨rfl, hk⟩ | ⟨rfl, hk⟩
  · have := rdig n 4 w (by omega) (by omega)
    rw [rdg4 n hk] at this
    exact this
  · have := rdig n 2 w (by omega) (by omega)
    rw [rdg2 n hk] at this
    exact this
theorem new2 (w : World) (o1 o2 : Obj) (a b c : Int) : (((w.alloc o1).alloc o2).alloc (.cells #[.int .i64 a, .int .i64 b, .int .i64 c] 253)).drew.cell? ⟨w.heap.size + 1 + 1, 0, none⟩ = some (.int .i64 a) ∧ (((w.alloc o1).alloc o2).alloc (.cells #[.int .i64 a, .int .i64 b, .int .i64 c] 253)).drew.cell? ⟨w.heap.size + 1 + 1, 1, none⟩ = some (.int .i64 b) ∧ (((w.alloc o1).alloc o2).alloc (.cells #[.int .i64 a, .int .i64 b, .int .i64 c] 253)).drew.cell? ⟨w.heap.size + 1 + 1, 2, none⟩ = some (.int .i64 c) := by
  have hs : w.heap.size + 1 + 1 = ((w.alloc o1).alloc o2).heap.size := by rw [World.size_alloc, World.size_alloc]
  rw [hs]
  generalize (w.alloc o1).alloc o2 = W
  refine ⟨?_, ?_, ?_⟩ <;> simp
set_option maxHeartbeats 2000000 in
theorem rprint_ok (y m d n : Nat) (w : World) (h : Dat y m d n) :
    Calls Tryz.prog 173 #[.int .i64 n] w fun e w' => e = .returned (.tuple #[.string ⟨(tx y m d).toArray⟩, .int .i64 0]) ∧ Below w.heap.size w w' := by
  have h6 := h.lo
  have h7 := h.hi
  have h2 := h.y2
  have h4 := h.m2
  have h5 : d ≤ 31 := Nat.le_trans h.d2 (dm_hi _ _)
  have l1 := pz_len y 4
  have l2 := pz_len m 2
  have l3 := pz_len d 2
  have q1 : ¬ 9223372036854775807 < (pz y 4).length + 1 := by omega
  have q2 : ¬ 9223372036854775807 < (pz y 4).length + 1 + (pz m 2).length := by omega
  have q3 : ¬ 9223372036854775807 < (pz y 4).length + 1 + (pz m 2).length + 1 := by omega
  have q4 : ¬ 9223372036854775807 < (pz y 4).length + 1 + (pz m 2).length + 1 + (pz d 2).length := by omega
  have H := hide h
  clear h
  go_enter Tryz.func173, Tryz.ntmps173
  go_wp2_with (first | (go_at_call 213; refine (rto_ok y m d n _ (unhide H)).mono ?_; rintro e w0 ⟨rfl, hw⟩; rw [hw]; clear hw))
  go_region_held3 (fun w' => w'.cell? ⟨w.heap.size + 1 + 1, 0, none⟩ = some (.int .i64 (y : Int)) ∧ w'.cell? ⟨w.heap.size + 1 + 1, 1, none⟩ = some (.int .i64 (m : Int)) ∧ w'.cell? ⟨w.heap.size + 1 + 1, 2, none⟩ = some (.int .i64 (d : Int))) (first | assumption | exact new2 _ _ _ _ _ _ | go_keep)
    (first | (go_at_call 214; have hx2 := unhide C2; refine (rdig_all _ _ (by omega) _).mono ?_; rintro e w3 ⟨rfl, hb3⟩; have C3 := hide ((unhide C2).trans (hb3.mono (unhide C2).size)); have K3 := keepS hb3 (unhide D2); clear hb3 hx2) | (go_at_call 214; have hx1 := unhide C1; refine (rdig_all _ _ (by omega) _).mono ?_; rintro e w2 ⟨rfl, hb2⟩; have C2 := hide ((unhide C1).trans (hb2.mono (unhide C1).size)); have K2 := keepS hb2 (unhide D1); have D2 := hide K2; clear hb2 hx1) | (go_at_call 214; refine (rdig_all _ _ (by omega) _).mono ?_; rintro e w1 ⟨rfl, hb1⟩; have C1 := hide ((bd3 _ _ _ _).trans (hb1.mono (bd3 w _ _ _).size)); have K1 := keepS (b := w.heap.size + 1 + 1) (x := .int .i64 (y : Int)) (y := .int .i64 (m : Int)) (z := .int .i64 (d : Int)) hb1 (new2 _ _ _ _ _ _); have D1 := hide K1; clear hb1))
  all_goals
    go_wp2
    go_ret2
    exact ⟨retSI (tx_glue y m d) rfl, unhide C3⟩
set_option maxHeartbeats 1000000 in
theorem rprint_bad (n : Int) (w : World) (h : n < 1 ∨ 1 ≤ n ∧ 3652059 < n) : Calls Tryz.prog 173 #[.int .i64 n] w fun e w' => e = .returned (.tuple #[.string ⟨#[]⟩, .int .i64 20]) ∧ Below w.heap.size w w' := by
  have H := hide h
  clear h
  go_enter Tryz.func173, Tryz.ntmps173
  go_wp2_with (first | (go_at_call 213; refine (rto_bad _ _ (unhide H)).mono ?_; rintro e w0 ⟨rfl, hw⟩; rw [hw]; clear hw))
  go_ret2
  exact ⟨rfl, by repeat (first | exact Below.refl _ _ | apply Below.drew | apply below_drewN | apply bal)⟩
end Go.Proofs.YtcafhmlpmbkhkaaGreatDoor.Dy
