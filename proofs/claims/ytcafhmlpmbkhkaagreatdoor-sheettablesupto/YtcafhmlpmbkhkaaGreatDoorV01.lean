import Derived.Test.YtcafhmlpmbkhkaaGreatDoorW09
import Derived.Test.YtcafhmlpmbkhkaaGreatDoorW35
import Derived.Test.YtcafhmlpmbkhkaaGreatDoorW10
/- Cells in memory. -/
namespace Go.Proofs.YtcafhmlpmbkhkaaGreatDoor
open Go Go.Shelf Go.ChangeShapes Go.WideShapes Go.ChangeAt Go.RowKit Go.Maps
set_option linter.unusedVariables false
structure Ce where
  ty : Int
  num : Int
  str : ByteArray
def Ce.vals (x : Ce) : List Value := [.int .i64 x.ty, .int .i64 x.num, .string x.str]
def kC : Kd Ce := ⟨Ce.vals, 3, 41, 43, 32⟩
theorem kC_ok : KdOK kC := kd_ok (fun _ => rfl) (by decide) (fun x u hu => by simp [kC, Ce.vals] at hu; rcases hu with rfl | rfl | rfl <;> rfl) Tryz.underlying41 (z := .agg #[.int .i64 0, .int .i64 0, .string ⟨#[]⟩]) (by kernel_rfl) rfl (by decide)
def ldC (x : Value) : Sem Value := Instr.loadAt 43 x
theorem ldC_is (x : Value) : Instr.loadAt 43 x = ldC x := rfl
theorem sizC : (Tryz.prog.info? 43).map (·.size) = some 3 := by kernel_rfl
def cvC (x : Ce) : Value := .agg #[.int .i64 x.ty, .int .i64 x.num, .string x.str]
theorem run_ldC {w : World} {b o : Nat} {x : Ce} (h : w.rangeAt b o x.vals) : (ldC (.pointer (some ⟨b, o, none⟩))).run Tryz.prog w = .ok (cvC x) w :=
  run_loadAt_mid (P := Tryz.prog) w b o 43 x.vals _ h Tryz.underlying43 rfl sizC
/-- the block of a variable that holds one -/
def obC (x : Ce) : Obj := .cells #[.int .i64 x.ty, .int .i64 x.num, .string x.str] 43
theorem ld_varC (w : World) (x : Ce) {W : World} (hb : Below (w.alloc (obC x)).heap.size (w.alloc (obC x)) W) : (ldC (.pointer (some ⟨w.heap.size, 0, none⟩))).run Tryz.prog W = .ok (cvC x) W := by
  refine run_ldC fun j u hu => ?_
  rw [Nat.zero_add]
  have h1 : (w.alloc (obC x)).cell? ⟨w.heap.size, j, none⟩ = some u := by
    have := cell_at (i := j) (heap_new w (obC x))
    rw [this]
    simpa [Ce.vals] using hu
  exact keep1 hb (by simp) h1
theorem Lies.ldC {W : World} {p : Option Addr} {L : List Ce} (h : Lies kC W p L) {k : Nat} (hk : k < L.length) : ∃ b o, p = some ⟨b, o, none⟩ ∧ b < W.heap.size ∧ (ldC (.pointer (some ⟨b, o + k * 3, none⟩))).run Tryz.prog W = .ok (cvC L[k]) W := by
  obtain ⟨b, o, e, hb, hr⟩ := h.2 k hk
  exact ⟨b, o, e, hb, run_ldC hr⟩
end Go.Proofs.YtcafhmlpmbkhkaaGreatDoor
/- Why a cell can't stand under a type (154, 63, 201, 202); the document's (157). -/
namespace Go.Proofs.YtcafhmlpmbkhkaaGreatDoor
open Go Go.Shelf Go.ChangeShapes Go.WideShapes Go.ChangeAt Go.RowKit Go.Maps
set_option linter.unusedVariables false
set_option linter.unusedSimpArgs false
/-- a byte that can stand in a line -/
def plB (n : Nat) : Bool := decide (32 ≤ n) && decide (n ≤ 126)
set_option maxHeartbeats 2000000 in
theorem isPlain_any (s : ByteArray) (hs : s.size ≤ 9223372036854775807) (w : World) : Calls Tryz.prog 201 #[.string s] w fun e w' => e = .returned (.bool (allL plB s)) ∧ w' = w := by
  go_enter Tryz.func201, Tryz.ntmps201
  go_wp2_with fail
  go_loopw [6] (fun vi wr => ∃ k : Nat, k ≤ s.size ∧ vi = .int .i64 k ∧ (∀ j (hj : j < s.size), j < k → plB (s[j]).toNat = true) ∧ wr = w) (fun i _ => s.size - (RowKit.intOf i).toNat)
  case atStart => exact ⟨0, by omega, rfl, fun j hj h => by omega, rfl⟩
  case round =>
    obtain ⟨k, hk, rfl, hd, rfl⟩ := hrel
    have H := hide hd
    clear hd
    by_cases hlt : k < s.size
    · have hI : (k : Int) < (s.size : Int) := by omega
      have hI0 : (0 : Int) ≤ (k : Int) := by omega
      obtain ⟨B, hB⟩ : ∃ B : Nat, (s[k]).toNat = B := ⟨_, rfl⟩
      have HB := hide hB
      have HL := hide hlt
      by_cases h1 : B < 32
      · have hno := hide (all_bad (p := plB) (unhide HL) (by rw [unhide HB]; simp [plB]; omega))
        go_wp2_with fail
        go_ret
        exact ⟨by rw [unhide hno]; rfl, rfl⟩
      · by_cases h2 : 126 < B
        · have hno := hide (all_bad (p := plB) (unhide HL) (by rw [unhide HB]; simp [plB]; omega))
          go_wp2_with fail
          go_ret
          exact ⟨by rw [unhide hno]; rfl, rfl⟩
        · have HP := hide (show plB B = true by simp [plB]; omega)
          go_wp2_with fail
          refine ⟨⟨k + 1, by omega, by go_num, ?_, trivial⟩, by simp [RowKit.intOf]; omega⟩
          intro j hj hjk
          by_cases e : j = k
          · subst e; rw [unhide HB]; exact unhide HP
          · exact unhide H j hj (by omega)
    · have hkl : k = s.size := by omega
      have hI : ¬ (k : Int) < (s.size : Int) := by omega
      have hall := hide (all_good (p := plB) (fun j hj => unhide H j hj (by omega)))
      clear hkl
      go_wp2_with fail
      go_ret
      exact ⟨by rw [unhide hall]; rfl, rfl⟩
set_option maxHeartbeats 2000000 in
theorem rplain_any (s : ByteArray) (hs : s.size ≤ 9223372036854775807) (w : World) : Calls Tryz.prog 157 #[.string s] w fun e w' => e = .returned (.bool (allL plB s)) ∧ w' = w := by
  go_enter Tryz.func157, Tryz.ntmps157
  go_wp2_with fail
  go_loopw [3] (fun vi wr => ∃ k : Nat, k ≤ s.size ∧ vi = .int .i64 k ∧ (∀ j (hj : j < s.size), j < k → plB (s[j]).toNat = true) ∧ wr = w) (fun i _ => s.size - (RowKit.intOf i).toNat)
  case atStart => exact ⟨0, by omega, rfl, fun j hj h => by omega, rfl⟩
  case round =>
    obtain ⟨k, hk, rfl, hd, rfl⟩ := hrel
    have H := hide hd
    clear hd
    by_cases hlt : k < s.size
    · have hI : (k : Int) < (s.size : Int) := by omega
      have hI0 : (0 : Int) ≤ (k : Int) := by omega
      obtain ⟨B, hB⟩ : ∃ B : Nat, (s[k]).toNat = B := ⟨_, rfl⟩
      have HB := hide hB
      have HL := hide hlt
      by_cases h1 : B < 32
      · have hno := hide (all_bad (p := plB) (unhide HL) (by rw [unhide HB]; simp [plB]; omega))
        go_wp2_with fail
        go_ret
        exact ⟨by rw [unhide hno]; rfl, rfl⟩
      · by_cases h2 : 126 < B
        · have hno := hide (all_bad (p := plB) (unhide HL) (by rw [unhide HB]; simp [plB]; omega))
          go_wp2_with fail
          go_ret
          exact ⟨by rw [unhide hno]; rfl, rfl⟩
        · have HP := hide (show plB B = true by simp [plB]; omega)
          go_wp2_with fail
          refine ⟨⟨k + 1, by omega, by go_num, ?_, trivial⟩, by simp [RowKit.intOf]; omega⟩
          intro j hj hjk
          by_cases e : j = k
          · subst e; rw [unhide HB]; exact unhide HP
          · exact unhide H j hj (by omega)
    · have hkl : k = s.size := by omega
      have hI : ¬ (k : Int) < (s.size : Int) := by omega
      have hall := hide (all_good (p := plB) (fun j hj => unhide H j hj (by omega)))
      clear hkl
      go_wp2_with fail
      go_ret
      exact ⟨by rw [unhide hall]; rfl, rfl⟩
set_option maxHeartbeats 1000000 in
theorem isDay64_any (n : Int) (w : World) : Calls Tryz.prog 202 #[.int .i64 n] w fun e w' => e = .returned (.bool (isDb n)) ∧ w' = w := by
  by_cases h1 : 1 ≤ n
  · by_cases h2 : n ≤ 3652059
    · have HE : Hid (isDb n = true) := by show _ = _; rw [isDb_iff]; exact ⟨h1, h2⟩
      go_enter Tryz.func202, Tryz.ntmps202
      go_wp2
      go_ret
      exact ⟨by rw [unhide HE]; rfl, rfl⟩
    · have HE : Hid (isDb n = false) := by show _ = _; simp [isDb, h2]
      go_enter Tryz.func202, Tryz.ntmps202
      go_wp2
      go_ret
      exact ⟨by rw [unhide HE]; rfl, rfl⟩
  · have HE : Hid (isDb n = false) := by show _ = _; simp [isDb, h1]
    go_enter Tryz.func202, Tryz.ntmps202
    go_wp2
    go_ret
    exact ⟨by rw [unhide HE]; rfl, rfl⟩
/-- why a number is no type -/
def faultT (t : Int) : Int := if 1 ≤ t ∧ t ≤ 5 then 0 else 140
set_option maxHeartbeats 1000000 in
theorem typeFault_any (t : Int) (w : World) : Calls Tryz.prog 63 #[.int .i64 t] w fun e w' => e = .returned (.int .i64 (faultT t)) ∧ Below w.heap.size w w' := by
  by_cases h : 1 ≤ t ∧ t ≤ 5
  · have HE : Hid (faultT t = 0) := if_pos h
    have h5 : t = 1 ∨ t = 2 ∨ t = 3 ∨ t = 4 ∨ t = 5 := by omega
    clear h
    rcases h5 with rfl | rfl | rfl | rfl | rfl <;>
    · go_enter Tryz.func63, Tryz.ntmps63
      go_wp2
      go_ret
      exact ⟨by rw [unhide HE]; rfl, Below.refl _ _⟩
  · have HE : Hid (faultT t = 140) := if_neg h
    have q1 : (t == 1) = false := beq_eq_false_iff_ne.2 (by omega)
    have q2 : (t == 2) = false := beq_eq_false_iff_ne.2 (by omega)
    have q3 : (t == 3) = false := beq_eq_false_iff_ne.2 (by omega)
    have q4 : (t == 4) = false := beq_eq_false_iff_ne.2 (by omega)
    have q5 : (t == 5) = false := beq_eq_false_iff_ne.2 (by omega)
    clear h
    go_enter Tryz.func63, Tryz.ntmps63
    go_wp2
    go_ret
    exact ⟨by rw [unhide HE]; rfl, Below.refl _ _⟩
/-- why a cell can't be of a type -/
def faultC (x : Ce) (t : Int) : Int :=
  if x.ty ≠ t then 140 else if x.ty = 4 ∧ x.num ≠ 0 ∧ x.num ≠ 1 then 140 else if x.ty = 2 ∧ allL plB x.str = false then 140 else if x.ty = 3 ∧ isDb x.num = false then 20 else if x.ty = 5 ∧ x.num = -9223372036854775808 then 10 else 0
theorem c_cells {W : World} {b : Nat} {x : Ce} (h : W.heap[b]? = some (obC x)) : W.cell? ⟨b, 0, none⟩ = some (.int .i64 x.ty) ∧ W.cell? ⟨b, 1, none⟩ = some (.int .i64 x.num) ∧ W.cell? ⟨b, 2, none⟩ = some (.string x.str) := by
  unfold obC at h
  refine ⟨?_, ?_, ?_⟩ <;> (rw [cell_at h]; rfl)
end Go.Proofs.YtcafhmlpmbkhkaaGreatDoor
/- Why a cell can't stand under a type (154), a row under types (66), and the closure of it (65). -/
namespace Go.Proofs.YtcafhmlpmbkhkaaGreatDoor
open Go Go.Shelf Go.ChangeShapes Go.WideShapes Go.ChangeAt Go.RowKit Go.Maps
set_option linter.unusedVariables false
set_option linter.unusedSimpArgs false
set_option maxRecDepth 100000 in
set_option maxHeartbeats 4000000 in
theorem cellFault_any (x : Ce) (t : Int) (hs : x.str.size ≤ 9223372036854775807) (hn : -9223372036854775808 ≤ x.num) (w : World) : Calls Tryz.prog 154 #[cvC x, .int .i64 t] w fun e w' => e = .returned (.int .i64 (faultC x t)) ∧ Below w.heap.size w w' := by
  obtain ⟨w0, hw0⟩ : ∃ W, W = w.alloc (obC x) := ⟨_, rfl⟩
  have b1 : Below w.heap.size w w0 := by rw [hw0]; exact bal (Below.refl _ _) _
  obtain ⟨c0, c1, c2⟩ := c_cells (W := w0) (b := w.heap.size) (x := x) (by rw [hw0]; exact heap_new _ _)
  have hw0' : w.alloc (.cells #[.int .i64 x.ty, .int .i64 x.num, .string x.str] 43) = w0 := by rw [hw0]; rfl
  have HB := hide b1
  obtain ⟨ty, num, str⟩ := x
  have DP := hide (isPlain_any str hs w0)
  have DD := hide (isDay64_any num w0)
  obtain ⟨pb, hpb⟩ : ∃ b, b = allL plB str := ⟨_, rfl⟩
  obtain ⟨db, hdb⟩ : ∃ b, b = isDb num := ⟨_, rfl⟩
  rw [← hpb] at DP
  rw [← hdb] at DD
  have HPB := hide hpb; have HDB := hide hdb
  unfold cvC
  dsimp only at c0 c1 c2 hw0' hn
  clear b1 hw0 hs hpb hdb
  by_cases ht : ty = t
  · subst ht
    by_cases h4 : ty = 4
    · subst h4
      by_cases h0 : num = 0
      · subst h0
        have HE : Hid (faultC ⟨4, 0, str⟩ 4 = 0) := by show _ = _; simp [faultC]
        go_enter Tryz.func154, Tryz.ntmps154
        go_wp2_with fail
        go_ret
        exact ⟨by rw [unhide HE]; rfl, unhide HB⟩
      · by_cases h1 : num = 1
        · subst h1
          have HE : Hid (faultC ⟨4, 1, str⟩ 4 = 0) := by show _ = _; simp [faultC]
          go_enter Tryz.func154, Tryz.ntmps154
          go_wp2_with fail
          go_ret
          exact ⟨by rw [unhide HE]; rfl, unhide HB⟩
        · have HE : Hid (faultC ⟨4, num, str⟩ 4 = 140) := by show _ = _; simp [faultC, h0, h1]
          have q0 : (num == 0) = false := beq_eq_false_iff_ne.2 h0
          have q1 : (num == 1) = false := beq_eq_false_iff_ne.2 h1
          have n0 : (num != 0) = true := by rw [bne_iff_ne]; exact h0
          have n1 : (num != 1) = true := by rw [bne_iff_ne]; exact h1
          go_enter Tryz.func154, Tryz.ntmps154
          go_wp2_with fail
          go_ret
          exact ⟨by rw [unhide HE]; rfl, unhide HB⟩
    · by_cases h2 : ty = 2
      · subst h2
        cases pb with
        | true =>
          have HE : Hid (faultC ⟨2, num, str⟩ 2 = 0) := by show _ = _; simp [faultC, ← unhide HPB]
          go_enter Tryz.func154, Tryz.ntmps154
          go_wp2_with (go_at_call 201; refine (unhide DP).mono ?_; rintro e wz ⟨rfl, hwz⟩; rw [hwz]; clear hwz wz)
          go_ret
          exact ⟨by rw [unhide HE]; rfl, unhide HB⟩
        | false =>
          have HE : Hid (faultC ⟨2, num, str⟩ 2 = 140) := by show _ = _; simp [faultC, ← unhide HPB]
          go_enter Tryz.func154, Tryz.ntmps154
          go_wp2_with (go_at_call 201; refine (unhide DP).mono ?_; rintro e wz ⟨rfl, hwz⟩; rw [hwz]; clear hwz wz)
          go_ret
          exact ⟨by rw [unhide HE]; rfl, unhide HB⟩
      · by_cases h3 : ty = 3
        · subst h3
          cases db with
          | true =>
            have HE : Hid (faultC ⟨3, num, str⟩ 3 = 0) := by show _ = _; simp [faultC, ← unhide HDB]
            go_enter Tryz.func154, Tryz.ntmps154
            go_wp2_with (go_at_call 202; refine (unhide DD).mono ?_; rintro e wz ⟨rfl, hwz⟩; rw [hwz]; clear hwz wz)
            go_ret
            exact ⟨by rw [unhide HE]; rfl, unhide HB⟩
          | false =>
            have HE : Hid (faultC ⟨3, num, str⟩ 3 = 20) := by show _ = _; simp [faultC, ← unhide HDB]
            go_enter Tryz.func154, Tryz.ntmps154
            go_wp2_with (go_at_call 202; refine (unhide DD).mono ?_; rintro e wz ⟨rfl, hwz⟩; rw [hwz]; clear hwz wz)
            go_ret
            exact ⟨by rw [unhide HE]; rfl, unhide HB⟩
        · by_cases h5 : ty = 5
          · subst h5
            by_cases hm : num = -9223372036854775808
            · subst hm
              have HE : Hid (faultC ⟨5, -9223372036854775808, str⟩ 5 = 10) := by show _ = _; simp [faultC]
              go_enter Tryz.func154, Tryz.ntmps154
              go_wp2_with (go_at_call 164; refine (chk_no _).mono ?_; rintro e wz ⟨rfl, hwz⟩; rw [hwz]; clear hwz wz)
              go_ret
              exact ⟨by rw [unhide HE]; rfl, unhide HB⟩
            · have HE : Hid (faultC ⟨5, num, str⟩ 5 = 0) := by show _ = _; simp [faultC, hm]
              have DC := hide (chk_yes num w0 (by omega))
              clear hm
              go_enter Tryz.func154, Tryz.ntmps154
              go_wp2_with (go_at_call 164; refine (unhide DC).mono ?_; rintro e wz ⟨rfl, hwz⟩; rw [hwz]; clear hwz wz)
              go_ret
              exact ⟨by rw [unhide HE]; rfl, unhide HB⟩
          · have HE : Hid (faultC ⟨ty, num, str⟩ ty = 0) := by show _ = _; simp [faultC, h2, h3, h4, h5]
            have q2 : (ty == 2) = false := beq_eq_false_iff_ne.2 h2
            have q3 : (ty == 3) = false := beq_eq_false_iff_ne.2 h3
            have q4 : (ty == 4) = false := beq_eq_false_iff_ne.2 h4
            have q5 : (ty == 5) = false := beq_eq_false_iff_ne.2 h5
            clear h2 h3 h4 h5
            go_enter Tryz.func154, Tryz.ntmps154
            go_wp2_with fail
            go_ret
            exact ⟨by rw [unhide HE]; rfl, unhide HB⟩
  · have HE : Hid (faultC ⟨ty, num, str⟩ t = 140) := by show _ = _; simp [faultC, ht]
    have q : (ty == t) = false := beq_eq_false_iff_ne.2 ht
    have qn : (ty != t) = true := by rw [bne_iff_ne]; exact ht
    clear ht
    go_enter Tryz.func154, Tryz.ntmps154
    go_wp2_with fail
    go_ret
    exact ⟨by rw [unhide HE]; rfl, unhide HB⟩
end Go.Proofs.YtcafhmlpmbkhkaaGreatDoor
/- Why a row can't stand under types (66, 65), the first fault of types (62) and of rows (64). -/
namespace Go.Proofs.YtcafhmlpmbkhkaaGreatDoor
open Go Go.Shelf Go.ChangeShapes Go.WideShapes Go.ChangeAt Go.RowKit Go.Maps
set_option linter.unusedVariables false
set_option linter.unusedSimpArgs false
theorem eg63 (args : Array Value) (w : World) : (callFunc 63 args).run Tryz.prog w = .ok (.enter 63 args) w := by kernel_rfl
theorem eg65 (args : Array Value) (w : World) : (callFunc 65 args).run Tryz.prog w = .ok (.enter 65 args) w := by kernel_rfl
/-- a row of cells: where it lies, what it shows -/
structure Rw where
  p : Option Addr
  n : Nat
  c : Nat
  x : List Ce
def kW : Kd Rw := ⟨fun r => [.slice r.p r.n r.c], 1, 34, 41, 24⟩
theorem kW_ok : KdOK kW := kd_ok (fun _ => rfl) (by decide) (fun x u hu => by simp [kW] at hu; subst hu; rfl) Tryz.underlying34 (z := .slice none 0 0) (by kernel_rfl) rfl (by decide)
def cvW (r : Rw) : Value := .slice r.p r.n r.c
/-- a cell that may come in -/
structure CeOk (x : Ce) : Prop where
  str : x.str.size ≤ 1048576
  ty : -9223372036854775808 ≤ x.ty ∧ x.ty ≤ 9223372036854775807
  num : -9223372036854775808 ≤ x.num ∧ x.num ≤ 9223372036854775807
/-- rows where they lie -/
def RwAt (W : World) (X : List Rw) : Prop := ∀ r ∈ X, r.x.length = r.n ∧ Lies kC W r.p r.x
theorem RwAt.below {W W' : World} {X : List Rw} (h : RwAt W X) (hb : Below W.heap.size W W') : RwAt W' X := fun r hr => ⟨(h r hr).1, (h r hr).2.below hb⟩
/-- the first fault of a list -/
def fstG {α : Type} (f : α → Int) : List α → Int
  | [] => 0
  | x :: l => if f x = 0 then fstG f l else f x
theorem fstG_zero {α : Type} {f : α → Int} : ∀ {A : List α}, fstG f A = 0 → ∀ x ∈ A, f x = 0
  | a :: A, h, x, hx => by
    rw [fstG] at h
    by_cases ha : f a = 0
    · rw [if_pos ha] at h
      rcases List.mem_cons.1 hx with rfl | hx
      · exact ha
      · exact fstG_zero h x hx
    · rw [if_neg ha] at h
      exact absurd h ha
/-- the first fault of cells under types -/
def fltZ : List Ce → List Int → Int
  | x :: X, t :: T => if faultC x t = 0 then fltZ X T else faultC x t
  | _, _ => 0
def faultR (T : List Int) (X : List Ce) : Int := if X.length = T.length then fltZ X T else 140
theorem fltZ_zero : ∀ {X : List Ce} {T : List Int}, fltZ X T = 0 → ∀ (k : Nat) x t, X[k]? = some x → T[k]? = some t → faultC x t = 0
  | [], _, _, k, x, t, h, _ => by simp at h
  | _ :: _, [], _, k, x, t, _, h => by simp at h
  | y :: X, u :: T, h, k, x, t, hx, ht => by
    rw [fltZ] at h
    by_cases ha : faultC y u = 0
    · rw [if_pos ha] at h
      cases k with
      | zero => simp at hx ht; subst hx; subst ht; exact ha
      | succ k => exact fltZ_zero h k x t (by simpa using hx) (by simpa using ht)
    · rw [if_neg ha] at h
      exact absurd h ha
attribute [local go_sem ↓] ldC_is
set_option maxRecDepth 100000 in
set_option maxHeartbeats 8000000 in
theorem cellsFault_any {w : World} {p : Option Addr} {n c : Nat} {X : List Ce} (hX : X.length = n) (hL : Lies kC w p X) {pt : Option Addr} {nt ct : Nat} {T : List Int} (hT : T.length = nt) (hLT : Lies kI w pt T) (hok : ∀ x ∈ X, CeOk x) (hn : n ≤ 1048576) (hnt : nt ≤ 1048576) :
    Calls Tryz.prog 66 #[.slice p n c, .slice pt nt ct] w fun e w' => e = .returned (.int .i64 (faultR T X)) ∧ Below w.heap.size w w' := by
  by_cases hnn : n = nt
  · subst hnn
    have HX := hide hX; have HL := hide hL; have HOK := hide hok; have HT := hide hT; have HLT := hide hLT
    have HE : Hid (faultR T X = fltZ X T) := if_pos (by omega)
    clear hX hL hok hT hLT
    go_enter Tryz.func66, Tryz.ntmps66
    go_wp2_with fail
    go_loopw [15] (fun iv wr => ∃ (k : Nat) (K : Int), k ≤ n ∧ iv = .int .i64 K ∧ K = (k : Int) ∧ Hid (fltZ X T = fltZ (X.drop k) (T.drop k) ∧ Below w.heap.size w wr)) (fun iv _ => ((n : Int) - intOf iv).toNat)
    case atStart => exact ⟨0, 0, by omega, rfl, rfl, by simp, Below.refl _ _⟩
    case round =>
      obtain ⟨wo, rfl⟩ : ∃ x, x = wr := ⟨wr, rfl⟩
      obtain ⟨k, K, hk, rfl, hK, HA⟩ := hrel
      by_cases hlt : k < n
      · have hI : K < (n : Int) := by omega
        have hK0 : 0 ≤ K := by omega
        have hKt : K.toNat = k := by omega
        have hkX : k < X.length := by have := unhide HX; omega
        have hkT : k < T.length := by have := unhide HT; omega
        obtain ⟨b, o, ep, hb, hld⟩ := ((unhide HL).below' (unhide HA).2).ldC hkX
        obtain ⟨x, hx⟩ : ∃ x, x = X[k] := ⟨_, rfl⟩
        rw [← hx] at hld
        have hxm : x ∈ X := by rw [hx]; exact List.getElem_mem hkX
        obtain ⟨t, ht⟩ : ∃ t, t = T[k] := ⟨_, rfl⟩
        have HDR : Hid (X.drop k = x :: X.drop (k + 1)) := by show _ = _; rw [List.drop_eq_getElem_cons hkX, ← hx]
        have HDT : Hid (T.drop k = t :: T.drop (k + 1)) := by show _ = _; rw [List.drop_eq_getElem_cons hkT, ← ht]
        subst ep
        obtain ⟨w1, hw1⟩ : ∃ w1, w1 = wo.alloc (obC x) := ⟨_, rfl⟩
        have b0 : Below wo.heap.size wo w1 := by rw [hw1]; exact bal (Below.refl _ _) _
        have b1 : Below w.heap.size w w1 := (unhide HA).2.trans (b0.mono (unhide HA).2.size)
        have hlv0 : ∀ W, Below w1.heap.size w1 W → (ldC (.pointer (some ⟨wo.heap.size, 0, none⟩))).run Tryz.prog W = .ok (cvC x) W := fun W h => by
          rw [hw1] at h
          exact ld_varC wo x h
        have hlv : ∀ P : Kg.Bel w1, (ldC (.pointer (some ⟨wo.heap.size, 0, none⟩))).run Tryz.prog P.W = .ok (cvC x) P.W := fun P => hlv0 P.W P.h
        obtain ⟨b2, o2, e2, hb2, hr2⟩ := ((unhide HLT).below b1).2 k hkT
        subst e2
        have hct : ∀ P : Kg.Bel w1, P.W.cell? ⟨b2, o2 + k, none⟩ = some (.int .i64 t) := fun P => by
          have := keep1 P.h hb2 (hr2 0 (.int .i64 t) (by rw [ht]; rfl))
          simpa [kI] using this
        have d : ∀ P : Kg.Bel w1, Calls Tryz.prog 154 #[cvC x, .int .i64 t] P.W fun e w' => e = .returned (.int .i64 (faultC x t)) ∧ ∃ q : Kg.Bel w1, w' = q.W := fun P =>
          (cellFault_any x t (by have := (unhide HOK x hxm).str; omega) (unhide HOK x hxm).num.1 P.W).mono fun e w' ⟨h1, h2⟩ => ⟨h1, ⟨w', P.h.trans (h2.mono P.h.size)⟩, rfl⟩
        have HK := hide hK; have HB1 := hide b1
        obtain ⟨vx, hvx⟩ : ∃ v, v = cvC x := ⟨_, rfl⟩
        obtain ⟨fx, hfx⟩ : ∃ z, z = faultC x t := ⟨_, rfl⟩
        rw [← hvx] at hlv d
        rw [← hfx] at d
        have D := hide d
        have HFX := hide hfx
        have hw1' : wo.alloc (.cells #[.int .i64 x.ty, .int .i64 x.num, .string x.str] 43) = w1 := by rw [hw1]; rfl
        unfold cvC at hld
        have HPRE := hide (unhide HA).1
        clear b1 b0 hw1 hkX hkT hlt hvx hxm hx ht HA d hfx hr2 hb2 hlv0
        go_upto_region 6 with fail
        refine Kg.wp_region_quiet_below (by kernel_rfl) (by kernel_rfl) ?_
        repeat (go_big_quiet_step (first | (go_at_call 154; refine unhide D _)))
        refine wpQuiet_nil ?_
        rintro _ ⟨P, rfl⟩
        have HB3 : Hid (Below w.heap.size w P.W) := (unhide HB1).trans (P.h.mono (unhide HB1).size)
        clear hlv hct D hld hw1'
        by_cases hz : fx = 0
        · subst hz
          have HN : Hid (fltZ X T = fltZ (X.drop (k + 1)) (T.drop (k + 1)) ∧ Below w.heap.size w P.W) := by
            refine ⟨?_, unhide HB3⟩
            rw [unhide HPRE, unhide HDR, unhide HDT, fltZ, if_pos (unhide HFX).symm]
          go_wp2_with fail
          exact ⟨⟨k + 1, K + 1, by have := unhide HK; omega, by go_num, by have := unhide HK; omega, unhide HN⟩, by have := unhide HK; simp [intOf]; omega⟩
        · have hzb : (fx == 0) = false := beq_eq_false_iff_ne.2 hz
          have hzn : (fx != 0) = true := by rw [bne_iff_ne]; exact hz
          have HN : Hid (faultR T X = fx) := by
            show _ = _
            rw [unhide HE, unhide HPRE, unhide HDR, unhide HDT, fltZ, ← unhide HFX, if_neg hz]
          go_wp2_with fail
          go_ret
          exact ⟨by rw [unhide HN]; rfl, unhide HB3⟩
      · have hI : ¬ K < (n : Int) := by omega
        have HN : Hid (faultR T X = 0 ∧ Below w.heap.size w wo) := by
          refine ⟨?_, (unhide HA).2⟩
          rw [unhide HE, (unhide HA).1, List.drop_eq_nil_of_le (by have := unhide HX; omega)]
          rfl
        clear HA hK
        go_wp2_with fail
        go_ret
        exact ⟨by rw [(unhide HN).1]; rfl, (unhide HN).2⟩
  · have HE : Hid (faultR T X = 140) := if_neg (by omega)
    have hq : ((n : Int) != (nt : Int)) = true := by rw [bne_iff_ne]; omega
    have hq2 : ((n : Int) == (nt : Int)) = false := beq_eq_false_iff_ne.2 (by omega)
    clear hX hL hok hT hLT
    go_enter Tryz.func66, Tryz.ntmps66
    go_wp2_with fail
    go_ret
    exact ⟨by rw [unhide HE]; rfl, Below.refl _ _⟩
end Go.Proofs.YtcafhmlpmbkhkaaGreatDoor
/- The first fault of types (62) and of rows (64, by the closure 65). -/
namespace Go.Proofs.YtcafhmlpmbkhkaaGreatDoor
open Go Go.Shelf Go.ChangeShapes Go.WideShapes Go.ChangeAt Go.RowKit Go.Maps
set_option linter.unusedVariables false
set_option linter.unusedSimpArgs false
set_option maxRecDepth 100000 in
set_option maxHeartbeats 2000000 in
theorem tfault_clo {w : World} {p : Option Addr} {n c : Nat} {X : List Ce} (hX : X.length = n) (hL : Lies kC w p X) {pt : Option Addr} {nt ct : Nat} {T : List Int} (hT : T.length = nt) (hLT : Lies kI w pt T) (hok : ∀ x ∈ X, CeOk x) (hn : n ≤ 1048576) (hnt : nt ≤ 1048576)
    {b : Nat} (hc : w.cell? ⟨b, 0, none⟩ = some (.slice pt nt ct)) :
    Calls Tryz.prog 65 #[.slice p n c, .pointer (some ⟨b, 0, none⟩)] w fun e w' => e = .returned (.int .i64 (faultR T X)) ∧ Below w.heap.size w w' := by
  have D := hide (cellsFault_any (c := c) (ct := ct) hX hL hT hLT hok hn hnt)
  clear hX hL hT hLT hok hn hnt
  go_enter Tryz.func65, Tryz.ntmps65
  go_wp2_with fail
  refine (unhide D).mono ?_
  rintro e w1 ⟨rfl, hb⟩
  have HB := hide hb
  clear hb D hc
  go_wp2_with fail
  go_ret
  exact ⟨rfl, unhide HB⟩
set_option maxRecDepth 100000 in
set_option maxHeartbeats 8000000 in
theorem fltI {w : World} {p : Option Addr} {n c : Nat} {X : List Int} (hX : X.length = n) (hL : Lies kI w p X) (hn : n ≤ 1048576) :
    Calls Tryz.prog 62 #[.slice p n c, .func (.func 63) #[] #[]] w fun e w' => e = .returned (.int .i64 (fstG faultT X)) ∧ Below w.heap.size w w' := by
  have eg := eg63
  have HX := hide hX; have HL := hide hL
  clear hX hL
  go_enter Tryz.func62, Tryz.ntmps62
  go_wp2_with fail
  go_loopw [10] (fun iv wr => ∃ (k : Nat) (K : Int), k ≤ n ∧ iv = .int .i64 K ∧ K = (k : Int) ∧ Hid (fstG faultT X = fstG faultT (X.drop k) ∧ Below w.heap.size w wr)) (fun iv _ => ((n : Int) - intOf iv).toNat)
  case atStart => exact ⟨0, 0, by omega, rfl, rfl, by simp, Below.refl _ _⟩
  case round =>
    obtain ⟨wo, rfl⟩ : ∃ x, x = wr := ⟨wr, rfl⟩
    obtain ⟨k, K, hk, rfl, hK, HA⟩ := hrel
    by_cases hlt : k < n
    · have hI : K < (n : Int) := by omega
      have hK0 : 0 ≤ K := by omega
      have hKt : K.toNat = k := by omega
      have hkX : k < X.length := by have := unhide HX; omega
      obtain ⟨b, o, ep, hb, hr⟩ := ((unhide HL).below (unhide HA).2).2 k hkX
      obtain ⟨x, hx⟩ : ∃ x, x = X[k] := ⟨_, rfl⟩
      have hc : wo.cell? ⟨b, o + k, none⟩ = some (.int .i64 x) := by
        have := hr 0 (.int .i64 x) (by rw [hx]; rfl)
        simpa [kI] using this
      have HDR : Hid (X.drop k = x :: X.drop (k + 1)) := by show _ = _; rw [List.drop_eq_getElem_cons hkX, ← hx]
      subst ep
      have d := typeFault_any x wo
      have HK := hide hK
      obtain ⟨fx, hfx⟩ : ∃ z, z = faultT x := ⟨_, rfl⟩
      rw [← hfx] at d
      have D := hide d
      have HFX := hide hfx
      have HPRE := hide (unhide HA).1
      have HB1 := hide (unhide HA).2
      clear hkX hlt hK hx HA d hfx hr hb
      by_cases hz : fx = 0
      · subst hz
        go_wp2_with fail
        refine (unhide D).mono ?_
        rintro e w3 ⟨rfl, hb3⟩
        have HE : Hid (fstG faultT X = fstG faultT (X.drop (k + 1)) ∧ Below w.heap.size w w3) := by
          refine ⟨?_, (unhide HB1).trans (hb3.mono (unhide HB1).size)⟩
          rw [unhide HPRE, unhide HDR, fstG, if_pos (unhide HFX).symm]
        clear hb3 hc
        go_wp2_with fail
        exact ⟨⟨k + 1, K + 1, by have := unhide HK; omega, by go_num, by have := unhide HK; omega, unhide HE⟩, by have := unhide HK; simp [intOf]; omega⟩
      · have hzb : (fx == 0) = false := beq_eq_false_iff_ne.2 hz
        have hzn : (fx != 0) = true := by rw [bne_iff_ne]; exact hz
        go_wp2_with fail
        refine (unhide D).mono ?_
        rintro e w3 ⟨rfl, hb3⟩
        have HE : Hid (Ending.returned (.int .i64 fx) = .returned (.int .i64 (fstG faultT X)) ∧ Below w.heap.size w w3) := by
          refine ⟨?_, (unhide HB1).trans (hb3.mono (unhide HB1).size)⟩
          rw [unhide HPRE, unhide HDR, fstG, ← unhide HFX, if_neg hz]
        clear hb3 hc
        go_wp2_with fail
        go_ret
        exact unhide HE
    · have hI : ¬ K < (n : Int) := by omega
      have HE : Hid (Ending.returned (.int .i64 0) = .returned (.int .i64 (fstG faultT X)) ∧ Below w.heap.size w wo) := by
        refine ⟨?_, (unhide HA).2⟩
        rw [(unhide HA).1, List.drop_eq_nil_of_le (by have := unhide HX; omega)]
        rfl
      clear HA hK
      go_wp2_with fail
      go_ret
      exact unhide HE
set_option maxRecDepth 100000 in
set_option maxHeartbeats 8000000 in
theorem fltW {w : World} {p : Option Addr} {n c : Nat} {X : List Rw} (hX : X.length = n) (hL : Lies kW w p X) {cv : Value} {f : Rw → Int} (hfn : ∀ x ∈ X, ∀ W, Below w.heap.size w W → Calls Tryz.prog 65 #[.slice x.p x.n x.c, cv] W fun e w' => e = .returned (.int .i64 (f x)) ∧ Below W.heap.size W w') (hn : n ≤ 1048576) :
    Calls Tryz.prog 64 #[.slice p n c, .func (.func 65) #[] #[cv]] w fun e w' => e = .returned (.int .i64 (fstG f X)) ∧ Below w.heap.size w w' := by
  have eg := eg65
  have HX := hide hX; have HL := hide hL; have HFN := hide hfn
  clear hX hL hfn
  go_enter Tryz.func64, Tryz.ntmps64
  go_wp2_with fail
  go_loopw [10] (fun iv wr => ∃ (k : Nat) (K : Int), k ≤ n ∧ iv = .int .i64 K ∧ K = (k : Int) ∧ Hid (fstG f X = fstG f (X.drop k) ∧ Below w.heap.size w wr)) (fun iv _ => ((n : Int) - intOf iv).toNat)
  case atStart => exact ⟨0, 0, by omega, rfl, rfl, by simp, Below.refl _ _⟩
  case round =>
    obtain ⟨wo, rfl⟩ : ∃ x, x = wr := ⟨wr, rfl⟩
    obtain ⟨k, K, hk, rfl, hK, HA⟩ := hrel
    by_cases hlt : k < n
    · have hI : K < (n : Int) := by omega
      have hK0 : 0 ≤ K := by omega
      have hKt : K.toNat = k := by omega
      have hkX : k < X.length := by have := unhide HX; omega
      obtain ⟨b, o, ep, hb, hr⟩ := ((unhide HL).below (unhide HA).2).2 k hkX
      obtain ⟨x, hx⟩ : ∃ x, x = X[k] := ⟨_, rfl⟩
      have hxm : x ∈ X := by rw [hx]; exact List.getElem_mem hkX
      have hc : wo.cell? ⟨b, o + k, none⟩ = some (.slice x.p x.n x.c) := by
        have := hr 0 (.slice x.p x.n x.c) (by rw [hx]; rfl)
        simpa [kW] using this
      have HDR : Hid (X.drop k = x :: X.drop (k + 1)) := by show _ = _; rw [List.drop_eq_getElem_cons hkX, ← hx]
      subst ep
      have d := unhide HFN x hxm wo (unhide HA).2
      have HK := hide hK
      obtain ⟨fx, hfx⟩ : ∃ z, z = f x := ⟨_, rfl⟩
      rw [← hfx] at d
      have D := hide d
      have HFX := hide hfx
      have HPRE := hide (unhide HA).1
      have HB1 := hide (unhide HA).2
      clear hkX hlt hK hx HA d hfx hr hb
      by_cases hz : fx = 0
      · subst hz
        go_wp2_with fail
        refine (unhide D).mono ?_
        rintro e w3 ⟨rfl, hb3⟩
        have HE : Hid (fstG f X = fstG f (X.drop (k + 1)) ∧ Below w.heap.size w w3) := by
          refine ⟨?_, (unhide HB1).trans (hb3.mono (unhide HB1).size)⟩
          rw [unhide HPRE, unhide HDR, fstG, if_pos (unhide HFX).symm]
        clear hb3 hc
        go_wp2_with fail
        exact ⟨⟨k + 1, K + 1, by have := unhide HK; omega, by go_num, by have := unhide HK; omega, unhide HE⟩, by have := unhide HK; simp [intOf]; omega⟩
      · have hzb : (fx == 0) = false := beq_eq_false_iff_ne.2 hz
        have hzn : (fx != 0) = true := by rw [bne_iff_ne]; exact hz
        go_wp2_with fail
        refine (unhide D).mono ?_
        rintro e w3 ⟨rfl, hb3⟩
        have HE : Hid (Ending.returned (.int .i64 fx) = .returned (.int .i64 (fstG f X)) ∧ Below w.heap.size w w3) := by
          refine ⟨?_, (unhide HB1).trans (hb3.mono (unhide HB1).size)⟩
          rw [unhide HPRE, unhide HDR, fstG, ← unhide HFX, if_neg hz]
        clear hb3 hc
        go_wp2_with fail
        go_ret
        exact unhide HE
    · have hI : ¬ K < (n : Int) := by omega
      have HE : Hid (Ending.returned (.int .i64 0) = .returned (.int .i64 (fstG f X)) ∧ Below w.heap.size w wo) := by
        refine ⟨?_, (unhide HA).2⟩
        rw [(unhide HA).1, List.drop_eq_nil_of_le (by have := unhide HX; omega)]
        rfl
      clear HA hK
      go_wp2_with fail
      go_ret
      exact unhide HE
end Go.Proofs.YtcafhmlpmbkhkaaGreatDoor
/- A cell's text (156), and the closure of it (155). -/
namespace Go.Proofs.YtcafhmlpmbkhkaaGreatDoor
open Go Go.Shelf Go.ChangeShapes Go.WideShapes Go.ChangeAt Go.RowKit Go.Maps
set_option linter.unusedVariables false
set_option linter.unusedSimpArgs false
def booT (b : Bool) : Tx := if b then [116, 114, 117, 101] else [102, 97, 108, 115, 101]
set_option maxHeartbeats 1000000 in
theorem fmtBool0 (b : Bool) (w : World) : Calls Tryz.prog 248 #[.bool b] w fun e w' => e = .returned (.string (txB (booT b))) ∧ w' = w := by
  cases b
  · go_enter Tryz.func248, Tryz.ntmps248
    go_wp2
    go_ret
    exact ⟨rfl, rfl⟩
  · go_enter Tryz.func248, Tryz.ntmps248
    go_wp2
    go_ret
    exact ⟨rfl, rfl⟩
set_option maxHeartbeats 1000000 in
theorem fmtBool_any (b : Bool) (w : World) : Calls Tryz.prog 203 #[.bool b] w fun e w' => e = .returned (.string (txB (booT b))) ∧ w' = w := by
  have D := hide (fmtBool0 b w)
  go_enter Tryz.func203, Tryz.ntmps203
  go_wp2_with fail
  refine (unhide D).mono ?_
  rintro e w1 ⟨rfl, hw⟩
  rw [hw]
  clear hw D
  go_wp2_with fail
  go_ret
  exact ⟨rfl, rfl⟩
/-- a cell's text -/
noncomputable def cTx (d : Nat) (x : Ce) : Tx :=
  if x.ty = 2 then x.str.data.toList else if x.ty = 3 then dtx x.num else if x.ty = 4 then booT (x.num == 1) else if x.ty = 5 then txt x.num d else Lib.itoa x.num
/-- a cell that can stand -/
structure CeFine (x : Ce) : Prop where
  str : x.str.size ≤ 1048576
  num : -9223372036854775808 ≤ x.num ∧ x.num ≤ 9223372036854775807
  day : x.ty = 3 → isD x.num
  amt : x.ty = 5 → isA x.num
theorem cfine_of {x : Ce} (h : CeOk x) (hf : faultC x x.ty = 0) : CeFine x := by
  refine ⟨h.str, h.num, fun h3 => ?_, fun h5 => ?_⟩
  · unfold faultC at hf
    rw [h3] at hf
    by_cases hd : isDb x.num = false
    · simp [hd] at hf
    · exact (isDb_iff _).1 (by simpa using hd)
  · unfold faultC at hf
    rw [h5] at hf
    refine ⟨?_, h.num.2⟩
    have := h.num.1
    by_cases hd : x.num = -9223372036854775808
    · simp [hd] at hf
    · omega
theorem faultC_ty {x : Ce} {t : Int} (hf : faultC x t = 0) : x.ty = t := by
  unfold faultC at hf
  by_cases h : x.ty = t
  · exact h
  · rw [if_pos h] at hf
    exact absurd hf (by decide)
set_option maxRecDepth 100000 in
set_option maxHeartbeats 4000000 in
theorem cell_any (x : Ce) (d : Nat) (hd : d ≤ 6) (hf : CeFine x) (w : World) (hP : Kg.Pw w) (hM : Dy.Mon w) : Calls Tryz.prog 156 #[.agg #[.int .i64 (d : Int)], cvC x] w (TxtOut w (cTx d x)) := by
  obtain ⟨w1, hw1⟩ : ∃ W, W = w.alloc (.cells #[.int .i64 (d : Int)] 83) := ⟨_, rfl⟩
  obtain ⟨w0, hw0⟩ : ∃ W, W = w1.alloc (obC x) := ⟨_, rfl⟩
  have b01 : Below w.heap.size w w1 := by rw [hw1]; exact bal (Below.refl _ _) _
  have b10 : Below w1.heap.size w1 w0 := by rw [hw0]; exact bal (Below.refl _ _) _
  have b1 : Below w.heap.size w w0 := b01.trans (b10.mono b01.size)
  obtain ⟨c0, c1, c2⟩ := c_cells (W := w0) (b := w1.heap.size) (x := x) (by rw [hw0]; exact heap_new _ _)
  have hh : w1.heap[w.heap.size]? = some (.cells #[.int .i64 (d : Int)] 83) := by rw [hw1]; exact heap_new _ _
  have cd : w0.cell? ⟨w.heap.size, 0, none⟩ = some (.int .i64 (d : Int)) := by
    rw [cell_at ((b10.block _ (Array.getElem?_eq_some_iff.1 hh).1).trans hh)]
    rfl
  have hw1' := hw1.symm
  have hw0' : w1.alloc (.cells #[.int .i64 x.ty, .int .i64 x.num, .string x.str] 43) = w0 := by rw [hw0]; rfl
  have HB := hide b1
  obtain ⟨ty, num, str⟩ := x
  have hP0 := hP.below b1
  have hM0 := hM.below b1
  have hn1 := hf.num
  have hday := hf.day
  have hamt := hf.amt
  dsimp only at hn1 hday hamt
  unfold cvC
  dsimp only at c0 c1 c2 hw0'
  clear b01 b10 b1 hw1 hw0 hh hP hM hf
  by_cases h2 : ty = 2
  · subst h2
    have HE : Hid (cTx d ⟨2, num, str⟩ = str.data.toList) := if_pos rfl
    clear hP0 hM0 hday hamt hn1
    go_enter Tryz.func156, Tryz.ntmps156
    go_wp2_with fail
    go_ret
    exact ⟨by rw [unhide HE]; rfl, unhide HB⟩
  · by_cases h3 : ty = 3
    · subst h3
      have HE : Hid (cTx d ⟨3, num, str⟩ = dtx num) := by show _ = _; simp [cTx]
      have D := hide (dayText_any num (hday rfl) w0 hM0 hP0)
      clear hP0 hM0 hday hamt h2 hn1
      go_enter Tryz.func156, Tryz.ntmps156
      go_wp2_with fail
      refine (unhide D).mono ?_
      rintro e w2 ⟨rfl, hb⟩
      have HB2 : Hid (Below w.heap.size w w2) := (unhide HB).trans (hb.mono (unhide HB).size)
      clear hb D
      go_wp2_with fail
      go_ret
      exact ⟨by rw [unhide HE]; rfl, unhide HB2⟩
    · by_cases h4 : ty = 4
      · subst h4
        have HE : Hid (cTx d ⟨4, num, str⟩ = booT (num == 1)) := by show _ = _; simp [cTx]
        have D := hide (fmtBool_any (num == 1) w0)
        clear hP0 hM0 hday hamt h2 h3 hn1
        go_enter Tryz.func156, Tryz.ntmps156
        go_wp2_with fail
        refine (unhide D).mono ?_
        rintro e w2 ⟨rfl, hb⟩
        rw [hb]
        clear hb D
        go_wp2_with fail
        go_ret
        exact ⟨by rw [unhide HE]; rfl, unhide HB⟩
      · by_cases h5 : ty = 5
        · subst h5
          have HE : Hid (cTx d ⟨5, num, str⟩ = txt num d) := by show _ = _; simp [cTx]
          have D := hide (amount_any num d (hamt rfl) hd w0 hP0)
          have ld : (Instr.loadAt 83 (.pointer (some ⟨w.heap.size, 0, none⟩))).run Tryz.prog w0 = .ok (.agg #[.int .i64 (d : Int)]) w0 :=
            run_loadAt_mid (P := Tryz.prog) w0 w.heap.size 0 83 [.int .i64 (d : Int)] _ (fun j u hu => by
              cases j with
              | zero => simp at hu; subst hu; exact cd
              | succ j => simp at hu) Tryz.underlying83 rfl (by kernel_rfl)
          clear hP0 hM0 hday hamt h2 h3 h4 hn1
          go_enter Tryz.func156, Tryz.ntmps156
          go_wp2_with fail
          refine (unhide D).mono ?_
          rintro e w2 ⟨rfl, hb⟩
          have HB2 : Hid (Below w.heap.size w w2) := (unhide HB).trans (hb.mono (unhide HB).size)
          clear hb D
          go_wp2_with fail
          go_ret
          exact ⟨by rw [unhide HE]; rfl, unhide HB2⟩
        · have HE : Hid (cTx d ⟨ty, num, str⟩ = Lib.itoa num) := by show _ = _; simp [cTx, h2, h3, h4, h5]
          have D := hide (Tryz.strconv_FormatInt_10 num hn1.1 hn1.2 w0 hP0)
          have q2 : (ty == 2) = false := beq_eq_false_iff_ne.2 h2
          have q3 : (ty == 3) = false := beq_eq_false_iff_ne.2 h3
          have q4 : (ty == 4) = false := beq_eq_false_iff_ne.2 h4
          have q5 : (ty == 5) = false := beq_eq_false_iff_ne.2 h5
          clear hP0 hM0 hday hamt h2 h3 h4 h5 hn1
          go_enter Tryz.func156, Tryz.ntmps156
          go_wp2_with fail
          refine (unhide D).mono ?_
          rintro e w2 ⟨rfl, hg⟩
          have HB2 : Hid (Below w.heap.size w w2) := (unhide HB).trans ((Kg.Grn.below hg).mono (unhide HB).size)
          clear hg D
          go_wp2_with fail
          go_ret
          exact ⟨by rw [unhide HE]; rfl, unhide HB2⟩
attribute [local go_sem ↓] ldC_is
set_option maxRecDepth 100000 in
set_option maxHeartbeats 4000000 in
/-- the closure: the cell at a place of a row -/
theorem cell_clo {w : World} {p : Option Addr} {n c : Nat} {X : List Ce} (hX : X.length = n) (hL : Lies kC w p X) (d : Nat) (hd : d ≤ 6) (hf : ∀ x ∈ X, CeFine x) (hP : Kg.Pw w) (hM : Dy.Mon w) {k : Nat} {x : Ce} (hk : X[k]? = some x) (hn : n ≤ 1048576) {bd bi : Nat}
    (hcd : w.cell? ⟨bd, 0, none⟩ = some (.int .i64 (d : Int))) (hci : w.cell? ⟨bi, 0, none⟩ = some (.int .i64 (k : Int))) :
    Calls Tryz.prog 155 #[.slice p n c, .pointer (some ⟨bd, 0, none⟩), .pointer (some ⟨bi, 0, none⟩)] w (TxtOut w (cTx d x)) := by
  have hkl : k < X.length := (List.getElem?_eq_some_iff.1 hk).1
  have hx : X[k] = x := (List.getElem?_eq_some_iff.1 hk).2
  obtain ⟨b, o, ep, hb, hr⟩ := hL.2 k hkl
  rw [hx] at hr
  subst ep
  have hbd : bd < w.heap.size := World.block_lt_of_cell? w ⟨bd, 0, none⟩ hcd
  have hbi : bi < w.heap.size := World.block_lt_of_cell? w ⟨bi, 0, none⟩ hci
  have x0 : ∀ P : Kg.Bel w, (ldC (.pointer (some ⟨b, o + k * 3, none⟩))).run Tryz.prog P.W = .ok (cvC x) P.W := fun P => run_ldC (fun j u hu => keep1 P.h hb (hr j u hu))
  have x1 : ∀ P : Kg.Bel w, P.W.cell? ⟨bi, 0, none⟩ = some (.int .i64 (k : Int)) := fun P => keep1 P.h hbi hci
  have x2 : ∀ P : Kg.Bel w, (Instr.loadAt 83 (.pointer (some ⟨bd, 0, none⟩))).run Tryz.prog P.W = .ok (.agg #[.int .i64 (d : Int)]) P.W := fun P =>
    run_loadAt_mid (P := Tryz.prog) P.W bd 0 83 [.int .i64 (d : Int)] _ (fun j u hu => by
      cases j with
      | zero => simp at hu; subst hu; exact keep1 P.h hbd hcd
      | succ j => simp at hu) Tryz.underlying83 rfl (by kernel_rfl)
  have x3 : ∀ P : Kg.Bel w, P.W.cell? ⟨bd, 0, none⟩ = some (.int .i64 (d : Int)) := fun P => keep1 P.h hbd hcd
  have hkn : (k : Int) < (n : Int) := by omega
  have hk0 : (0 : Int) ≤ (k : Int) := by omega
  have D : Hid (∀ P : Kg.Bel w, Calls Tryz.prog 156 #[.agg #[.int .i64 (d : Int)], cvC x] P.W fun e w' => e = .returned (.string (txB (cTx d x))) ∧ ∃ q : Kg.Bel w, w' = q.W) := fun P =>
    (cell_any x d hd (hf x (List.mem_of_getElem? hk)) P.W (hP.below P.h) (hM.below P.h)).mono fun e w' ⟨h1, h2⟩ => ⟨h1, ⟨w', P.h.trans (h2.mono P.h.size)⟩, rfl⟩
  obtain ⟨vx, hvx⟩ : ∃ v, v = cvC x := ⟨_, rfl⟩
  obtain ⟨T, hT⟩ : ∃ T, T = txB (cTx d x) := ⟨_, rfl⟩
  rw [← hvx] at x0 D
  rw [← hT] at D
  have HT := hide hT
  clear hX hL hk hf hP hM hcd hci hr hb hbd hbi hvx hkl hx hT
  go_enter Tryz.func155, Tryz.ntmps155
  go_upto_region 1 with fail
  refine Kg.wp_region_quiet_below (by kernel_rfl) (by kernel_rfl) ?_
  go_big_quiet_step (fail)
  go_big_quiet_step (fail)
  repeat (go_big_quiet_step (first | (go_at_call 156; refine unhide D _)))
  refine wpQuiet_nil ?_
  rintro _ ⟨P, rfl⟩
  have HP := hide P.h
  clear x0 x1 x2 D
  go_wp2_with fail
  go_ret
  exact ⟨by rw [unhide HT]; rfl, unhide HP⟩
end Go.Proofs.YtcafhmlpmbkhkaaGreatDoor
