import Derived.Test.YtpeefmbdhkfhmaaGreatDoorW11
import Derived.Test.YtpeefmbdhkfhmaaGreatDoorW02
import Derived.Laws.Externs
import Derived.Test.YtpeefmbdhkfhmaaGreatDoorW10
/- money: Check (19), Sum (30). -/
namespace Go.Proofs.YtpeefmbdhkfhmaaGreatDoor
open Go.ChangeShapes Go.WideShapes Go.ChangeAt Go.RowKit
set_option linter.unusedVariables false

set_option maxHeartbeats 1000000 in
theorem chk_yes (a : Int) (w : World) (h : -9223372036854775807 ≤ a) : Calls Tryz.prog 81 #[.int .i64 a] w fun e w' => e = .returned (.int .i64 0) ∧ w' = w := by
  have hb : (a == -9223372036854775808) = false := by rw [beq_eq_false_iff_ne]; omega
  clear h
  go_enter Tryz.func81, Tryz.ntmps81
  go_wp2
  go_ret
  exact ⟨rfl, rfl⟩
set_option maxHeartbeats 1000000 in
theorem chk_no (w : World) : Calls Tryz.prog 81 #[.int .i64 (-9223372036854775808)] w fun e w' => e = .returned (.int .i64 10) ∧ w' = w := by
  go_enter Tryz.func81, Tryz.ntmps81
  go_wp2
  go_ret
  exact ⟨rfl, rfl⟩
/-- the word above -/
def sgnW (a : Int) : Int := (a / 9223372036854775808) % 18446744073709551616
theorem uw_mod (a : Int) : IntKind.u64.wrap a = a % 18446744073709551616 := by
  simp only [IntKind.wrap, IntKind.bits, IntKind.signed, Bool.false_and, Bool.false_eq_true, if_false]
  omega
theorem sgnW_bd (a : Int) : 0 ≤ sgnW a ∧ sgnW a < 18446744073709551616 := by unfold sgnW; omega
set_option maxHeartbeats 1000000 in
theorem sgn_any (a : Int) (w : World) (h : -9223372036854775808 ≤ a) (h' : a ≤ 9223372036854775807) : Calls Tryz.prog 222 #[.int .i64 a] w fun e w' => e = .returned (.int .u64 (sgnW a)) ∧ w' = w := by
  have e := hide (uw_mod (a / 9223372036854775808))
  go_enter Tryz.func222, Tryz.ntmps222
  go_wp2
  go_ret
  exact ⟨by rw [show sgnW a = IntKind.u64.wrap (a / 9223372036854775808) from (unhide e).symm]; rfl, rfl⟩

theorem add64_at (x y c s k : Int) (hx : 0 ≤ x) (hy : 0 ≤ y) (hc0 : 0 ≤ c) (hc : c ≤ 1) (hs : (x + y + c) % 18446744073709551616 = s) (hk : (x + y + c) / 18446744073709551616 = k) (w : World) :
    (callFunc 221 #[.int .u64 x, .int .u64 y, .int .u64 c]).run Tryz.prog w = .ok (.value (.tuple #[.int .u64 s, .int .u64 k])) w := by
  rw [run_callFunc_extern Tryz.func221 (by kernel_rfl) (by kernel_rfl) (by kernel_rfl) (e := add64Entry) (by kernel_rfl), run_add64 x y c hx hy hc0 hc, hs, hk]
  simp only [Result.andThen]

/-- two words hold the sum of the first k -/
structure SumIn (zs : Nat → Int) (k : Nat) (H L : Int) : Prop where
  lo : L = sumZ zs k % 18446744073709551616
  hi : H = (sumZ zs k / 18446744073709551616) % 18446744073709551616
theorem SumIn.bd {zs : Nat → Int} {k : Nat} {H L : Int} (h : SumIn zs k H L) : 0 ≤ H ∧ H < 18446744073709551616 ∧ 0 ≤ L ∧ L < 18446744073709551616 := by
  obtain ⟨a, b⟩ := h
  omega
theorem SumIn.step {zs : Nat → Int} {k : Nat} {H L : Int} (h : SumIn zs k H L) (hz : -9223372036854775808 ≤ zs k ∧ zs k ≤ 9223372036854775807) (U l c h1 : Int) (hU : U = zs k % 18446744073709551616) (hl : (L + U + 0) % 18446744073709551616 = l) (hc : (L + U + 0) / 18446744073709551616 = c) (hh : (H + sgnW (zs k) + c) % 18446744073709551616 = h1) : SumIn zs (k + 1) h1 l := by
  obtain ⟨a, b⟩ := h
  refine ⟨?_, ?_⟩
  · simp only [sumZ]
    omega
  · simp only [sumZ]
    unfold sgnW at hh
    generalize sumZ zs k = S at *
    generalize zs k = z at *
    have hq : z / 9223372036854775808 = if z < 0 then -1 else 0 := by split <;> omega
    rw [hq] at hh
    split at hh <;> omega
theorem sumZ_bd (zs : Nat → Int) (len : Nat) (hl : len ≤ 9223372036854775807) (hz : ∀ k, k < len → -9223372036854775808 ≤ zs k ∧ zs k ≤ 9223372036854775807) : -85070591730234615865843651857942052864 ≤ sumZ zs len ∧ sumZ zs len ≤ 85070591730234615865843651857942052864 := by
  have h1 := up_dn_bd zs len hz len (Nat.le_refl _)
  have h2 := up_dn zs len
  have h3 : len * 9223372036854775808 ≤ 9223372036854775807 * 9223372036854775808 := Nat.mul_le_mul_right _ hl
  have h4 : 9223372036854775807 * 9223372036854775808 ≤ 85070591730234615865843651857942052864 := by decide
  have h5 : upN zs len ≤ 85070591730234615865843651857942052864 := Nat.le_trans h1.1 (Nat.le_trans h3 h4)
  have h6 : dnN zs len ≤ 85070591730234615865843651857942052864 := Nat.le_trans h1.2 (Nat.le_trans h3 h4)
  clear h1 h3 h4 hz
  omega
/-- the end: does the sum fit one word? -/
theorem SumIn.fits {zs : Nat → Int} {k : Nat} {H L : Int} (h : SumIn zs k H L) (hb : -85070591730234615865843651857942052864 ≤ sumZ zs k ∧ sumZ zs k ≤ 85070591730234615865843651857942052864) (hf : -9223372036854775808 ≤ sumZ zs k ∧ sumZ zs k < 9223372036854775808) : (if 9223372036854775808 ≤ L then L - 18446744073709551616 else L) = sumZ zs k ∧ H = sgnW (sumZ zs k) := by
  obtain ⟨a, b⟩ := h
  unfold sgnW
  generalize sumZ zs k = S at *
  have hq : S / 9223372036854775808 = if S < 0 then -1 else 0 := by split <;> omega
  rw [hq]
  split <;> split <;> omega
theorem SumIn.over {zs : Nat → Int} {k : Nat} {H L : Int} (h : SumIn zs k H L) (hb : -85070591730234615865843651857942052864 ≤ sumZ zs k ∧ sumZ zs k ≤ 85070591730234615865843651857942052864) (hf : ¬ (-9223372036854775808 ≤ sumZ zs k ∧ sumZ zs k < 9223372036854775808)) (s : Int) (hs : s = if 9223372036854775808 ≤ L then L - 18446744073709551616 else L) : ¬ H = sgnW s := by
  obtain ⟨a, b⟩ := h
  unfold sgnW
  generalize sumZ zs k = S at *
  have hq : s / 9223372036854775808 = if s < 0 then -1 else 0 := by rw [hs]; split <;> split <;> omega
  rw [hq]
  split at hs <;> split <;> omega

theorem wrap64_word (L : Int) (h : 0 ≤ L ∧ L < 18446744073709551616) : wrap64 L = if 9223372036854775808 ≤ L then L - 18446744073709551616 else L := by
  unfold wrap64
  split <;> omega
set_option maxHeartbeats 4000000 in
theorem msum_any (zs : Nat → Int) (b off len cap : Nat) (hl : len ≤ 9223372036854775807) (hz : ∀ k, k < len → -9223372036854775808 ≤ zs k ∧ zs k ≤ 9223372036854775807) (w : World) (hc : ∀ k, k < len → w.cell? ⟨b, off + k, none⟩ = some (.int .i64 (zs k))) :
    Calls Tryz.prog 164 #[.slice (some ⟨b, off, none⟩) len cap] w fun e w' => e = .returned (.tuple #[.int .i64 (sumSpec zs len).1, .int .i64 (sumSpec zs len).2]) ∧ w' = w := by
  have hsb := hide (sumZ_bd zs len hl hz)
  go_enter Tryz.func164, Tryz.ntmps164
  go_wp2
  go_loop [4, 5, 13] (fun hi lo i => ∃ (k : Nat) (H L : Int), k ≤ len ∧ i = .int .i64 k ∧ hi = .int .u64 H ∧ lo = .int .u64 L ∧ anyMin zs k = false ∧ SumIn zs k H L) (fun _ _ i => len - (intOf i).toNat)
  case atStart => exact ⟨0, 0, 0, by omega, rfl, rfl, rfl, rfl, by simp [sumZ], by simp [sumZ]⟩
  case round =>
    obtain ⟨k, H, L, hk, rfl, rfl, rfl, hfine, hin⟩ := hrel
    have F := hide hfine
    clear hfine
    by_cases hlt : k < len
    · have hck := hc k hlt
      have hzk := hz k hlt
      clear hc hz
      by_cases hm : zs k = -9223372036854775808
      · have hbad := hide (sumSpec_bad hlt hm)
        rw [hm] at hck
        clear hzk hm hin
        go_wp2_with (go_at_call 81; refine (chk_no _).mono ?_; rintro e w' ⟨rfl, hw⟩; subst hw)
        go_ret2
        exact ⟨by rw [unhide hbad]; rfl, rfl⟩
      · have hm' : -9223372036854775807 ≤ zs k := by omega
        have F' := hide (anyMin_step (unhide F) hm)
        have bd := hin.bd
        have sb := sgnW_bd (zs k)
        obtain ⟨l1, hl1⟩ : ∃ l1, (L + zs k % 18446744073709551616 + 0) % 18446744073709551616 = l1 := ⟨_, rfl⟩
        obtain ⟨c1, hc1⟩ : ∃ c1, (L + zs k % 18446744073709551616 + 0) / 18446744073709551616 = c1 := ⟨_, rfl⟩
        obtain ⟨h1, hh1⟩ : ∃ h1, (H + sgnW (zs k) + c1) % 18446744073709551616 = h1 := ⟨_, rfl⟩
        have hc01 : 0 ≤ c1 ∧ c1 ≤ 1 := by omega
        have R := hide (hin.step hzk _ _ _ _ rfl hl1 hc1 hh1)
        have A1 := fun w => add64_at L (zs k % 18446744073709551616) 0 l1 c1 bd.2.2.1 (by omega) (by omega) (by omega) hl1 hc1 w
        have A2 := fun w => add64_at H (sgnW (zs k)) c1 h1 _ bd.1 sb.1 hc01.1 hc01.2 hh1 rfl w
        have A1 := hide A1
        have A2 := hide A2
        by_cases h0 : 0 ≤ zs k
        · have e0 : zs k % 18446744073709551616 = zs k := by omega
          rw [e0] at A1
          clear hm hin bd sb hl1 hc1 hh1 hc01 e0 F hk
          go_wp2_with (first | simp only [unhide A1] | simp only [unhide A2] | (go_at_call 81; refine (chk_yes _ _ (by omega)).mono ?_; rintro e w' ⟨rfl, hw⟩; subst hw) | (go_at_call 222; refine (sgn_any _ _ (by omega) (by omega)).mono ?_; rintro e w' ⟨rfl, hw⟩; subst hw))
          go_round
          case rel => exact ⟨k + 1, h1, l1, by omega, by go_num, rfl, rfl, unhide F', unhide R⟩
          case measure => simp [intOf]; omega
        · have e0 : IntKind.u64.wrap (zs k) = zs k % 18446744073709551616 := uw_mod _
          rw [← e0] at A1
          clear hm hin bd sb hl1 hc1 hh1 hc01 e0 F hk
          go_wp2_with (first | simp only [unhide A1] | simp only [unhide A2] | (go_at_call 81; refine (chk_yes _ _ (by omega)).mono ?_; rintro e w' ⟨rfl, hw⟩; subst hw) | (go_at_call 222; refine (sgn_any _ _ (by omega) (by omega)).mono ?_; rintro e w' ⟨rfl, hw⟩; subst hw))
          go_round
          case rel => exact ⟨k + 1, h1, l1, by omega, by go_num, rfl, rfl, unhide F', unhide R⟩
          case measure => simp [intOf]; omega
    · have hkl : k = len := by omega
      subst hkl
      clear hc hz hk
      have bd := hin.bd
      have HIN := hide hin
      clear hin
      obtain ⟨s, hs⟩ : ∃ s, wrap64 L = s := ⟨_, rfl⟩
      have hs' : s = if 9223372036854775808 ≤ L then L - 18446744073709551616 else L := by rw [← hs]; exact wrap64_word L bd.2.2
      have sbd : -9223372036854775808 ≤ s ∧ s ≤ 9223372036854775807 := by rw [hs']; split <;> omega
      have HS' := hide hs'
      clear hs' bd
      by_cases hf : -9223372036854775808 ≤ sumZ zs k ∧ sumZ zs k < 9223372036854775808
      · have hfit := (unhide HIN).fits (unhide hsb) hf
        have es : s = sumZ zs k := (unhide HS').trans hfit.1
        have hne : (H != sgnW s) = false := by rw [bne_eq_false_iff_eq, es]; exact hfit.2
        clear hfit
        by_cases hm : sumZ zs k = -9223372036854775808
        · have hfin := hide (sumSpec_over (unhide F) (by omega))
          have em : s = -9223372036854775808 := by omega
          subst em
          clear hm es hf HS' HIN hlt
          go_wp2_with (first | (go_at_call 222; refine (sgn_any _ _ (by omega) (by omega)).mono ?_; rintro e w' ⟨rfl, hw⟩; subst hw) | (go_at_call 81; refine (chk_no _).mono ?_; rintro e w' ⟨rfl, hw⟩; subst hw))
          go_ret2
          exact ⟨by rw [unhide hfin]; rfl, rfl⟩
        · have hfin := hide (sumSpec_fits (unhide F) (by omega) hf.2)
          have em : -9223372036854775807 ≤ s := by omega
          have ES := hide es
          clear hm es hf HS' HIN hlt
          go_wp2_with (first | (go_at_call 222; refine (sgn_any _ _ (by omega) (by omega)).mono ?_; rintro e w' ⟨rfl, hw⟩; subst hw) | (go_at_call 81; refine (chk_yes _ _ (by omega)).mono ?_; rintro e w' ⟨rfl, hw⟩; subst hw))
          go_ret2
          exact ⟨by rw [unhide hfin, ← unhide ES]; rfl, rfl⟩
      · have hne : (H != sgnW s) = true := by rw [bne_iff_ne]; exact (unhide HIN).over (unhide hsb) hf s (unhide HS')
        have hfin := hide (sumSpec_over (unhide F) (by omega))
        clear hf HS' HIN hlt
        go_wp2_with (first | (go_at_call 222; refine (sgn_any _ _ (by omega) (by omega)).mono ?_; rintro e w' ⟨rfl, hw⟩; subst hw))
        go_ret2
        exact ⟨by rw [unhide hfin]; rfl, rfl⟩
end Go.Proofs.YtpeefmbdhkfhmaaGreatDoor
/- money.Sum (30) of a row of numbers that the call owns. -/
namespace Go.Proofs.YtpeefmbdhkfhmaaGreatDoor
open Go Go.ChangeShapes Go.WideShapes Go.ChangeAt Go.RowKit Go.Maps
set_option linter.unusedVariables false
abbrev isA (x : Int) : Prop := -9223372036854775807 ≤ x ∧ x ≤ 9223372036854775807
/-- what Sum answers of amounts -/
def sumA (l : List Int) : Int × Int := if isA (sm id l) then (sm id l, 0) else (0, 11)
theorem sumZ_list (l : List Int) : ∀ k, k ≤ l.length → sumZ (fun i => l.getD i 0) k = sm id (l.take k)
  | 0, _ => rfl
  | k + 1, h => by
    have e : l.take (k + 1) = l.take k ++ [l[k]] := List.take_succ_eq_append_getElem (by omega)
    rw [e, sm_append]
    simp only [sumZ, sm]
    rw [sumZ_list l k (by omega)]
    have : l.getD k 0 = l[k] := by simp [List.getD, List.getElem?_eq_getElem (show k < l.length by omega)]
    rw [this]
    simp
theorem anyMin_list {l : List Int} (h : ∀ x ∈ l, isA x) : ∀ k, k ≤ l.length → anyMin (fun i => l.getD i 0) k = false
  | 0, _ => rfl
  | k + 1, hk => by
    simp only [anyMin, anyMin_list h k (by omega), Bool.false_or]
    have e : l.getD k 0 = l[k] := by simp [List.getD, List.getElem?_eq_getElem (show k < l.length by omega)]
    rw [e]
    have := h l[k] (List.getElem_mem _)
    rw [beq_eq_false_iff_ne]
    omega
theorem sumSpec_list {l : List Int} (h : ∀ x ∈ l, isA x) : sumSpec (fun i => l.getD i 0) l.length = sumA l := by
  unfold sumSpec sumA
  rw [anyMin_list h _ (Nat.le_refl _), sumZ_list l _ (Nat.le_refl _), List.take_length]
  simp only [Bool.false_eq_true, if_false]
  by_cases hc : -9223372036854775807 ≤ sm id l ∧ sm id l ≤ 9223372036854775807
  · rw [if_pos (show isA (sm id l) from hc), if_pos (by omega)]
  · rw [if_neg (show ¬ isA (sm id l) from hc), if_neg (by omega)]
theorem msum_rows {w : World} {B : Nat} {v : Value} {l : List Int} (h : w.ownsInts B 2 .i64 v l) (hne : l ≠ []) (hl : l.length ≤ 9223372036854775807) (hA : ∀ x ∈ l, isA x) :
    Calls Tryz.prog 164 #[v] w fun e w' => e = .returned (.tuple #[.int .i64 (sumA l).1, .int .i64 (sumA l).2]) ∧ w' = w := by
  rcases h.1.2 with ⟨e, h2⟩ | ⟨g, cap, cur, e, hB, hh, hc, hm, hcs, ht⟩
  · exact absurd (List.eq_nil_of_length_eq_zero h2) hne
  · subst e
    rw [← sumSpec_list hA]
    refine msum_any _ g 0 l.length cap hl (fun k hk => ?_) w (fun k hk => ?_)
    · have e : l.getD k 0 = l[k] := by simp [List.getD, List.getElem?_eq_getElem hk]
      rw [e]
      have := hA l[k] (List.getElem_mem _)
      omega
    · have hk2 : (cur.toList.take (l.length * 1))[k]? = some (.int .i64 l[k]) := by rw [ht]; simp [List.getElem?_eq_getElem hk]
      rw [List.getElem?_take_of_lt (by omega)] at hk2
      have e : l.getD k 0 = l[k] := by simp [List.getD, List.getElem?_eq_getElem hk]
      simp only [e]
      unfold World.cell?
      simp only [hh, Nat.zero_add]
      simpa using hk2
end Go.Proofs.YtpeefmbdhkfhmaaGreatDoor
/- sums: a view that is added to; frames. -/
namespace Go.Proofs.YtpeefmbdhkfhmaaGreatDoor
open Go Go.ChangeShapes Go.WideShapes Go.ChangeAt Go.RowKit Go.Maps
set_option linter.unusedVariables false
theorem MapAt.obj {E : TypeId} {w : World} {b n : Nat} {f : List UInt8 → Int} (h : MapAt E w (some b) n f) : ∃ es clock, w.heap[b]? = some (.map es clock) := by
  rcases h with ⟨h, _⟩ | ⟨b', D, e, hm, hs⟩
  · cases h
  · cases e
    obtain ⟨es, clock, hb, _⟩ := hm
    exact ⟨es, clock, hb⟩
section
variable {w w' : World} {d : Nat} {mo mr : Option Nat} {n : Nat} {f g : List UInt8 → Int} {a c : Int}
theorem SumsAt.kind (h : SumsAt w d mo mr n f g a c) {k : Nat} (hk : Blk d mo mr k) : k = d ∨ ∃ es clock, w.heap[k]? = some (.map es clock) := by
  rcases hk with rfl | rfl | rfl
  · exact .inl rfl
  · exact .inr h.own.obj
  · exact .inr h.rol.obj
theorem SumsAt.not_cell (h : SumsAt w d mo mr n f g a c) {q o : Nat} {v : Value} (hc : w.cell? ⟨q, o, none⟩ = some v) (hq : q ≠ d) : ¬ Blk d mo mr q := fun hk => by
  rcases h.kind hk with e | ⟨es, clock, e⟩
  · exact hq e
  · simp [World.cell?, e] at hc
theorem SumsAt.not_lpy (h : SumsAt w d mo mr n f g a c) {q : Nat} {o : Obj} (ho : w.heap[q]? = some o) (hl : lpy o = true) : ¬ Blk d mo mr q := fun hk => by
  rcases h.kind hk with e | ⟨es, clock, e⟩
  · subst e
    have hc := h.c0
    unfold World.cell? at hc
    simp only [ho] at hc
    cases o <;> simp_all [lpy]
  · rw [e] at ho
    cases ho
    simp [lpy] at hl
theorem SumsAt.mono (h : SumsAt w d mo mr n f g a c) {n' : Nat} (hn : n ≤ n') : SumsAt w d mo mr n' f g a c :=
  ⟨h.c0, h.c1, h.c2, h.c3, h.fz, h.own.mono hn, h.rol.mono hn, h.d0, h.d1, h.ab⟩
/-- what a call has changed: the view's own blocks alone -/
structure Stp (w w' : World) (d : Nat) (mo mr mo' mr' : Option Nat) : Prop where
  fr : Fr (Blk d mo mr) w w'
  new : ∀ k, Blk d mo' mr' k → Blk d mo mr k ∨ w.heap.size ≤ k
theorem AddOut.fr {s : ByteArray} {x : Int} {o b' : Nat} {e : Ending} (h : AddOut 2 s x d o mo n f w e w' b') {mr : Option Nat} : Fr (Blk d mo mr) w w' :=
  ⟨h.os, h.tape, h.output, h.size, fun k hk hb => h.old k hk (fun e => hb (.inr (.inl e.symm))) (fun _ e => hb (.inl e))⟩
theorem AddOut.fr' {s : ByteArray} {x : Int} {o b' : Nat} {e : Ending} (h : AddOut 2 s x d o mr n f w e w' b') {mo : Option Nat} : Fr (Blk d mo mr) w w' :=
  ⟨h.os, h.tape, h.output, h.size, fun k hk hb => h.old k hk (fun e => hb (.inr (.inr e.symm))) (fun _ e => hb (.inl e))⟩
theorem addOwn (h : SumsAt w d mo mr n f g a c) (hn : n < maxLen) {s : ByteArray} (hs : s.size ≤ maxLen) (x : Int) :
    Calls Tryz.prog 83 #[.pointer (some ⟨d, 0, none⟩), .string s, .int .i64 x] w fun e w' => (∃ r, e = .returned r) ∧ ∃ mo', SumsAt w' d mo' mr (n + 1) (upd f s.data.toList (IntKind.i64.wrap (f s.data.toList + x))) g a c ∧ Stp w w' d mo mr mo' mr := by
  refine (add_any s hs x d 0 n hn mo f w h.c0 (h.fz 0) h.own h.d0).mono ?_
  rintro e w' ⟨b', ho⟩
  have hlt := h.lt
  have hrk : ∀ b, mr = some b → w'.heap[b]? = w.heap[b]? := fun b hb => ho.old b (hlt b (.inr (.inr hb))) (fun e => h.ab b e.symm hb) (fun _ => (h.d1 b hb).symm)
  have hbd : d ≠ b' := by
    rcases ho.what with e | ⟨_, e⟩
    · exact h.d0 b' e
    · have := hlt d (.inl rfl); omega
  refine ⟨ho.ret, some b', ⟨ho.cell, (ho.cells 1 (by omega)).trans h.c1, (ho.cells 2 (by omega)).trans h.c2, (ho.cells 3 (by omega)).trans h.c3, fun j => (ho.frozen j).trans (h.fz j), ho.map, (h.rol.block hrk).mono (by omega), fun b e => by cases e; exact hbd, h.d1, fun b e e2 => ?_⟩, ho.fr, fun k hk => ?_⟩
  · cases e
    rcases ho.what with e3 | ⟨_, e3⟩
    · exact h.ab b' e3 e2
    · have := hlt b' (.inr (.inr e2)); omega
  · rcases hk with rfl | hk | hk
    · exact .inl (.inl rfl)
    · cases hk
      rcases ho.what with e | ⟨_, e⟩
      · exact .inl (.inr (.inl e))
      · exact .inr e
    · exact .inl (.inr (.inr hk))
theorem addRoll (h : SumsAt w d mo mr n f g a c) (hn : n < maxLen) {s : ByteArray} (hs : s.size ≤ maxLen) (x : Int) :
    Calls Tryz.prog 83 #[.pointer (some ⟨d, 1, none⟩), .string s, .int .i64 x] w fun e w' => (∃ r, e = .returned r) ∧ ∃ mr', SumsAt w' d mo mr' (n + 1) f (upd g s.data.toList (IntKind.i64.wrap (g s.data.toList + x))) a c ∧ Stp w w' d mo mr mo mr' := by
  refine (add_any s hs x d 1 n hn mr g w h.c1 (h.fz 1) h.rol h.d1).mono ?_
  rintro e w' ⟨b', ho⟩
  have hlt := h.lt
  have hrk : ∀ b, mo = some b → w'.heap[b]? = w.heap[b]? := fun b hb => ho.old b (hlt b (.inr (.inl hb))) (fun e => h.ab b hb e.symm) (fun _ => (h.d0 b hb).symm)
  have hbd : d ≠ b' := by
    rcases ho.what with e | ⟨_, e⟩
    · exact h.d1 b' e
    · have := hlt d (.inl rfl); omega
  refine ⟨ho.ret, some b', ⟨(ho.cells 0 (by omega)).trans h.c0, ho.cell, (ho.cells 2 (by omega)).trans h.c2, (ho.cells 3 (by omega)).trans h.c3, fun j => (ho.frozen j).trans (h.fz j), (h.own.block hrk).mono (by omega), ho.map, h.d0, fun b e => by cases e; exact hbd, fun b e e2 => ?_⟩, ho.fr', fun k hk => ?_⟩
  · cases e2
    rcases ho.what with e3 | ⟨_, e3⟩
    · exact h.ab b' e e3
    · have := hlt b' (.inr (.inl e)); omega
  · rcases hk with rfl | hk | hk
    · exact .inl (.inl rfl)
    · exact .inl (.inr (.inl hk))
    · cases hk
      rcases ho.what with e | ⟨_, e⟩
      · exact .inl (.inr (.inr e))
      · exact .inr e
end
/-- a view that has been worked on since w0 -/
def Va (w0 : World) (d : Nat) (m0 r0 : Option Nat) (n : Nat) (f g : List UInt8 → Int) (a c : Int) (wr : World) : Prop :=
  ∃ mo mr, SumsAt wr d mo mr n f g a c ∧ Fr (Blk d m0 r0) w0 wr ∧ ∀ k, Blk d mo mr k → Blk d m0 r0 k ∨ w0.heap.size ≤ k
section
variable {w0 W W' : World} {d : Nat} {m0 r0 : Option Nat} {n : Nat} {f g : List UInt8 → Int} {a c : Int}
theorem Va.start (h : SumsAt W d m0 r0 n f g a c) : Va W d m0 r0 n f g a c W := ⟨m0, r0, h, Fr.refl _ _, fun k hk => .inl hk⟩
/-- whatever leaves the blocks of the view alone -/
theorem Va.turn (h : Va w0 d m0 r0 n f g a c W) {row : Option Nat} (hg : W.grownBy W' row) (hr : ∀ r, row = some r → w0.heap.size ≤ r ∧ ∃ o, W.heap[r]? = some o ∧ lpy o = true) : Va w0 d m0 r0 n f g a c W' := by
  obtain ⟨mo, mr, h1, h2, h3⟩ := h
  refine ⟨mo, mr, h1.block (fun k hk => hg.block k (h1.lt k hk) (fun e => ?_)), ⟨hg.os.trans h2.os, hg.tape.trans h2.tape, hg.output.trans h2.output, Nat.le_trans h2.size hg.size, fun k hk hb => (hg.block k (Nat.lt_of_lt_of_le hk h2.size) (fun e => ?_)).trans (h2.block k hk hb)⟩, h3⟩
  · obtain ⟨_, o, ho, hl⟩ := hr k e.symm
    exact h1.not_lpy ho hl hk
  · obtain ⟨h4, _⟩ := hr k e.symm
    omega
theorem Va.below (h : Va w0 d m0 r0 n f g a c W) (hb : Below W.heap.size W W') : Va w0 d m0 r0 n f g a c W' :=
  h.turn (grown_of_below hb) (fun r e => by cases e)
theorem Va.step (h : Fr (Blk d m0 r0) w0 W) {mo mr mo' mr' : Option Nat} (h3 : ∀ k, Blk d mo mr k → Blk d m0 r0 k ∨ w0.heap.size ≤ k) {n' : Nat} {f' g' : List UInt8 → Int} {a' c' : Int} (hs : SumsAt W' d mo' mr' n' f' g' a' c') (hp : Stp W W' d mo mr mo' mr') : Va w0 d m0 r0 n' f' g' a' c' W' := by
  refine ⟨mo', mr', hs, h.trans hp.fr h3, fun k hk => ?_⟩
  rcases hp.new k hk with hk | hk
  · exact h3 k hk
  · exact .inr (Nat.le_trans h.size hk)
/-- what such a step leaves of cells and of a range's own blocks -/
theorem Stp.cell {mo mr mo' mr' : Option Nat} (hp : Stp W W' d mo mr mo' mr') (hs : SumsAt W d mo mr n f g a c) {q o : Nat} {v : Value} (hc : W.cell? ⟨q, o, none⟩ = some v) (hq : q ≠ d) : W'.cell? ⟨q, o, none⟩ = some v :=
  (World.cell?_of_block (a := ⟨q, o, none⟩) (hp.fr.block q (World.block_lt_of_cell? W _ hc) (hs.not_cell hc hq))).trans hc
theorem Stp.lpy {mo mr mo' mr' : Option Nat} (hp : Stp W W' d mo mr mo' mr') (hs : SumsAt W d mo mr n f g a c) : KeepsL W W' :=
  ⟨hp.fr.size, fun k o hk ho => (hp.fr.block k (Array.getElem?_eq_some_iff.1 hk).1 (hs.not_lpy hk ho)).trans hk⟩
end
end Go.Proofs.YtpeefmbdhkfhmaaGreatDoor
