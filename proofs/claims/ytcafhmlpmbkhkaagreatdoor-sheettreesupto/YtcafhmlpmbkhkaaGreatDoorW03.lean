import Derived.Test.YtcafhmlpmbkhkaaGreatDoorW01
import Derived.Test.YtcafhmlpmbkhkaaGreatDoorW02
import Derived.Laws.Externs
import Derived.RangeFuncOwn
import Derived.Laws.AppendOwnNone
import Derived.Below
import Derived.BigCall
import Derived.BigQuiet
import Derived.Deep.AppendLies
import Derived.Deep.MidRow
import Derived.Deep.QuietTactic
import Derived.Laws.AppendOwn
import Derived.Laws.BitsAll
import Derived.Laws.MakeOwn
import Derived.Laws.OwnMore
import Derived.Lib.Bytes
import Derived.Lib.LastIndexByte
import Derived.Lib.SplitLaws
import Derived.Maps.AppendAt
import Derived.OpenShut
import Derived.ProofKit
import Derived.Shelf.Abstract
import Derived.WalkKit
import Derived.WalkLawsBesides
/- money: Check (19), Sum (30). -/
namespace Go.Proofs.YtcafhmlpmbkhkaaGreatDoor
open Go.ChangeShapes Go.WideShapes Go.ChangeAt Go.RowKit
set_option linter.unusedVariables false

set_option maxHeartbeats 1000000 in
theorem chk_yes (a : Int) (w : World) (h : -9223372036854775807 ≤ a) : Calls Tryz.prog 164 #[.int .i64 a] w fun e w' => e = .returned (.int .i64 0) ∧ w' = w := by
  have hb : (a == -9223372036854775808) = false := by rw [beq_eq_false_iff_ne]; omega
  clear h
  go_enter Tryz.func164, Tryz.ntmps164
  go_wp2
  go_ret
  exact ⟨rfl, rfl⟩
set_option maxHeartbeats 1000000 in
theorem chk_no (w : World) : Calls Tryz.prog 164 #[.int .i64 (-9223372036854775808)] w fun e w' => e = .returned (.int .i64 10) ∧ w' = w := by
  go_enter Tryz.func164, Tryz.ntmps164
  go_wp2
  go_ret
  exact ⟨rfl, rfl⟩
/-- the word above -/
def sgnW (a : Int) : Int := (a / 9223372036854775808) % 18446744073709551616
theorem uw_mod (a : Int) : IntKind.u64.wrap a = a % 18446744073709551616 := by
  simp only [IntKind.wrap, IntKind.bits, IntKind.signed, Bool.false_and, Bool.false_eq_true, if_false]
  omega
theorem sgnW_bd (a : Int) : 0 ≤ sgnW a ∧ sgnW a < 18446744073709551616 := by unfold sgnW; omega
set_option maxHeartbeats 1000000 in
theorem sgn_any (a : Int) (w : World) (h : -9223372036854775808 ≤ a) (h' : a ≤ 9223372036854775807) : Calls Tryz.prog 166 #[.int .i64 a] w fun e w' => e = .returned (.int .u64 (sgnW a)) ∧ w' = w := by
  have e := hide (uw_mod (a / 9223372036854775808))
  go_enter Tryz.func166, Tryz.ntmps166
  go_wp2
  go_ret
  exact ⟨by rw [show sgnW a = IntKind.u64.wrap (a / 9223372036854775808) from (unhide e).symm]; rfl, rfl⟩

theorem add64_at (x y c s k : Int) (hx : 0 ≤ x) (hy : 0 ≤ y) (hc0 : 0 ≤ c) (hc : c ≤ 1) (hs : (x + y + c) % 18446744073709551616 = s) (hk : (x + y + c) / 18446744073709551616 = k) (w : World) :
    (callFunc 165 #[.int .u64 x, .int .u64 y, .int .u64 c]).run Tryz.prog w = .ok (.value (.tuple #[.int .u64 s, .int .u64 k])) w := by
  rw [run_callFunc_extern Tryz.func165 (by kernel_rfl) (by kernel_rfl) (by kernel_rfl) (e := add64Entry) (by kernel_rfl), run_add64 x y c hx hy hc0 hc, hs, hk]
  simp only [Result.andThen]

/-- two words hold the sum of the first k -/
structure SumIn (zs : Nat → Int) (k : Nat) (H L : Int) : Prop where
  lo : L = sumZ zs k % 18446744073709551616
  hi : H = (sumZ zs k / 18446744073709551616) % 18446744073709551616
theorem SumIn.bd {zs : Nat → Int} {k : Nat} {H L : Int} (h : SumIn zs k H L) : 0 ≤ H ∧ H < 18446744073709551616 ∧ 0 ≤ L ∧ L < 18446744073709551616 := by
  obtain ⟨a, b⟩ := h
  omega
theorem SumIn.step {zs : Nat → Int} {k : Nat} {H L : Int} (h : SumIn zs k H L) (hz : -9223372036854775808 ≤ zs k ∧ zs k ≤ 9223372036854775807) (U l c h1 : Int) (hU : U = zs k % 18446744073709551616) (hl : (L + U + 0) % 18446744073709551616 = l) (hc : (L + U + 0) / 18446744073709551616 = c) (hh : (H + sgnW (zs k) + c) % 18446744073709551616 = h1) : SumIn zs (k + 1) h1 l := by
  obtain ⟨a, b⟩ := h
  refine ⟨?_, ?_⟩
  · simp only [sumZ]
    omega
  · simp only [sumZ]
    unfold sgnW at hh
    generalize sumZ zs k = S at *
    generalize zs k = z at *
    have hq : z / 9223372036854775808 = if z < 0 then -1 else 0 := by split <;> omega
    rw [hq] at hh
    split at hh <;> omega
theorem sumZ_bd (zs : Nat → Int) (len : Nat) (hl : len ≤ 9223372036854775807) (hz : ∀ k, k < len → -9223372036854775808 ≤ zs k ∧ zs k ≤ 9223372036854775807) : -85070591730234615865843651857942052864 ≤ sumZ zs len ∧ sumZ zs len ≤ 85070591730234615865843651857942052864 := by
  have h1 := up_dn_bd zs len hz len (Nat.le_refl _)
  have h2 := up_dn zs len
  have h3 : len * 9223372036854775808 ≤ 9223372036854775807 * 9223372036854775808 := Nat.mul_le_mul_right _ hl
  have h4 : 9223372036854775807 * 9223372036854775808 ≤ 85070591730234615865843651857942052864 := by decide
  have h5 : upN zs len ≤ 85070591730234615865843651857942052864 := Nat.le_trans h1.1 (Nat.le_trans h3 h4)
  have h6 : dnN zs len ≤ 85070591730234615865843651857942052864 := Nat.le_trans h1.2 (Nat.le_trans h3 h4)
  clear h1 h3 h4 hz
  omega
/-- the end: does the sum fit one word? -/
theorem SumIn.fits {zs : Nat → Int} {k : Nat} {H L : Int} (h : SumIn zs k H L) (hb : -85070591730234615865843651857942052864 ≤ sumZ zs k ∧ sumZ zs k ≤ 85070591730234615865843651857942052864) (hf : -9223372036854775808 ≤ sumZ zs k ∧ sumZ zs k < 9223372036854775808) : (if 9223372036854775808 ≤ L then L - 18446744073709551616 else L) = sumZ zs k ∧ H = sgnW (sumZ zs k) := by
  obtain ⟨a, b⟩ := h
  unfold sgnW
  generalize sumZ zs k = S at *
  have hq : S / 9223372036854775808 = if S < 0 then -1 else 0 := by split <;> omega
  rw [hq]
  split <;> split <;> omega
theorem SumIn.over {zs : Nat → Int} {k : Nat} {H L : Int} (h : SumIn zs k H L) (hb : -85070591730234615865843651857942052864 ≤ sumZ zs k ∧ sumZ zs k ≤ 85070591730234615865843651857942052864) (hf : ¬ (-9223372036854775808 ≤ sumZ zs k ∧ sumZ zs k < 9223372036854775808)) (s : Int) (hs : s = if 9223372036854775808 ≤ L then L - 18446744073709551616 else L) : ¬ H = sgnW s := by
  obtain ⟨a, b⟩ := h
  unfold sgnW
  generalize sumZ zs k = S at *
  have hq : s / 9223372036854775808 = if s < 0 then -1 else 0 := by rw [hs]; split <;> split <;> omega
  rw [hq]
  split at hs <;> split <;> omega

theorem wrap64_word (L : Int) (h : 0 ≤ L ∧ L < 18446744073709551616) : wrap64 L = if 9223372036854775808 ≤ L then L - 18446744073709551616 else L := by
  unfold wrap64
  split <;> omega
set_option maxHeartbeats 4000000 in
theorem msum_any (zs : Nat → Int) (b off len cap : Nat) (hl : len ≤ 9223372036854775807) (hz : ∀ k, k < len → -9223372036854775808 ≤ zs k ∧ zs k ≤ 9223372036854775807) (w : World) (hc : ∀ k, k < len → w.cell? ⟨b, off + k, none⟩ = some (.int .i64 (zs k))) :
    Calls Tryz.prog 83 #[.slice (some ⟨b, off, none⟩) len cap] w fun e w' => e = .returned (.tuple #[.int .i64 (sumSpec zs len).1, .int .i64 (sumSpec zs len).2]) ∧ w' = w := by
  have hsb := hide (sumZ_bd zs len hl hz)
  go_enter Tryz.func83, Tryz.ntmps83
  go_wp2
  go_loop [4, 5, 13] (fun hi lo i => ∃ (k : Nat) (H L : Int), k ≤ len ∧ i = .int .i64 k ∧ hi = .int .u64 H ∧ lo = .int .u64 L ∧ anyMin zs k = false ∧ SumIn zs k H L) (fun _ _ i => len - (intOf i).toNat)
  case atStart => exact ⟨0, 0, 0, by omega, rfl, rfl, rfl, rfl, by simp [sumZ], by simp [sumZ]⟩
  case round =>
    obtain ⟨k, H, L, hk, rfl, rfl, rfl, hfine, hin⟩ := hrel
    have F := hide hfine
    clear hfine
    by_cases hlt : k < len
    · have hck := hc k hlt
      have hzk := hz k hlt
      clear hc hz
      by_cases hm : zs k = -9223372036854775808
      · have hbad := hide (sumSpec_bad hlt hm)
        rw [hm] at hck
        clear hzk hm hin
        go_wp2_with (go_at_call 164; refine (chk_no _).mono ?_; rintro e w' ⟨rfl, hw⟩; subst hw)
        go_ret2
        exact ⟨by rw [unhide hbad]; rfl, rfl⟩
      · have hm' : -9223372036854775807 ≤ zs k := by omega
        have F' := hide (anyMin_step (unhide F) hm)
        have bd := hin.bd
        have sb := sgnW_bd (zs k)
        obtain ⟨l1, hl1⟩ : ∃ l1, (L + zs k % 18446744073709551616 + 0) % 18446744073709551616 = l1 := ⟨_, rfl⟩
        obtain ⟨c1, hc1⟩ : ∃ c1, (L + zs k % 18446744073709551616 + 0) / 18446744073709551616 = c1 := ⟨_, rfl⟩
        obtain ⟨h1, hh1⟩ : ∃ h1, (H + sgnW (zs k) + c1) % 18446744073709551616 = h1 := ⟨_, rfl⟩
        have hc01 : 0 ≤ c1 ∧ c1 ≤ 1 := by omega
        have R := hide (hin.step hzk _ _ _ _ rfl hl1 hc1 hh1)
        have A1 := fun w => add64_at L (zs k % 18446744073709551616) 0 l1 c1 bd.2.2.1 (by omega) (by omega) (by omega) hl1 hc1 w
        have A2 := fun w => add64_at H (sgnW (zs k)) c1 h1 _ bd.1 sb.1 hc01.1 hc01.2 hh1 rfl w
        have A1 := hide A1
        have A2 := hide A2
        by_cases h0 : 0 ≤ zs k
        · have e0 : zs k % 18446744073709551616 = zs k := by omega
          rw [e0] at A1
          clear hm hin bd sb hl1 hc1 hh1 hc01 e0 F hk
          go_wp2_with (first | simp only [unhide A1] | simp only [unhide A2] | (go_at_call 164; refine (chk_yes _ _ (by omega)).mono ?_; rintro e w' ⟨rfl, hw⟩; subst hw) | (go_at_call 166; refine (sgn_any _ _ (by omega) (by omega)).mono ?_; rintro e w' ⟨rfl, hw⟩; subst hw))
          go_round
          case rel => exact ⟨k + 1, h1, l1, by omega, by go_num, rfl, rfl, unhide F', unhide R⟩
          case measure => simp [intOf]; omega
        · have e0 : IntKind.u64.wrap (zs k) = zs k % 18446744073709551616 := uw_mod _
          rw [← e0] at A1
          clear hm hin bd sb hl1 hc1 hh1 hc01 e0 F hk
          go_wp2_with (first | simp only [unhide A1] | simp only [unhide A2] | (go_at_call 164; refine (chk_yes _ _ (by omega)).mono ?_; rintro e w' ⟨rfl, hw⟩; subst hw) | (go_at_call 166; refine (sgn_any _ _ (by omega) (by omega)).mono ?_; rintro e w' ⟨rfl, hw⟩; subst hw))
          go_round
          case rel => exact ⟨k + 1, h1, l1, by omega, by go_num, rfl, rfl, unhide F', unhide R⟩
          case measure => simp [intOf]; omega
    · have hkl : k = len := by omega
      subst hkl
      clear hc hz hk
      have bd := hin.bd
      have HIN := hide hin
      clear hin
      obtain ⟨s, hs⟩ : ∃ s, wrap64 L = s := ⟨_, rfl⟩
      have hs' : s = if 9223372036854775808 ≤ L then L - 18446744073709551616 else L := by rw [← hs]; exact wrap64_word L bd.2.2
      have sbd : -9223372036854775808 ≤ s ∧ s ≤ 9223372036854775807 := by rw [hs']; split <;> omega
      have HS' := hide hs'
      clear hs' bd
      by_cases hf : -9223372036854775808 ≤ sumZ zs k ∧ sumZ zs k < 9223372036854775808
      · have hfit := (unhide HIN).fits (unhide hsb) hf
        have es : s = sumZ zs k := (unhide HS').trans hfit.1
        have hne : (H != sgnW s) = false := by rw [bne_eq_false_iff_eq, es]; exact hfit.2
        clear hfit
        by_cases hm : sumZ zs k = -9223372036854775808
        · have hfin := hide (sumSpec_over (unhide F) (by omega))
          have em : s = -9223372036854775808 := by omega
          subst em
          clear hm es hf HS' HIN hlt
          go_wp2_with (first | (go_at_call 166; refine (sgn_any _ _ (by omega) (by omega)).mono ?_; rintro e w' ⟨rfl, hw⟩; subst hw) | (go_at_call 164; refine (chk_no _).mono ?_; rintro e w' ⟨rfl, hw⟩; subst hw))
          go_ret2
          exact ⟨by rw [unhide hfin]; rfl, rfl⟩
        · have hfin := hide (sumSpec_fits (unhide F) (by omega) hf.2)
          have em : -9223372036854775807 ≤ s := by omega
          have ES := hide es
          clear hm es hf HS' HIN hlt
          go_wp2_with (first | (go_at_call 166; refine (sgn_any _ _ (by omega) (by omega)).mono ?_; rintro e w' ⟨rfl, hw⟩; subst hw) | (go_at_call 164; refine (chk_yes _ _ (by omega)).mono ?_; rintro e w' ⟨rfl, hw⟩; subst hw))
          go_ret2
          exact ⟨by rw [unhide hfin, ← unhide ES]; rfl, rfl⟩
      · have hne : (H != sgnW s) = true := by rw [bne_iff_ne]; exact (unhide HIN).over (unhide hsb) hf s (unhide HS')
        have hfin := hide (sumSpec_over (unhide F) (by omega))
        clear hf HS' HIN hlt
        go_wp2_with (first | (go_at_call 166; refine (sgn_any _ _ (by omega) (by omega)).mono ?_; rintro e w' ⟨rfl, hw⟩; subst hw))
        go_ret2
        exact ⟨by rw [unhide hfin]; rfl, rfl⟩
end Go.Proofs.YtcafhmlpmbkhkaaGreatDoor
/- rows of any kind of element: lists of them that lie somewhere, and lists that a call owns. -/
namespace Go.Proofs.YtcafhmlpmbkhkaaGreatDoor
open Go Go.Shelf Go.ChangeShapes Go.WideShapes Go.ChangeAt Go.RowKit Go.Maps
set_option linter.unusedVariables false
/-- a kind of element: its cells, its size in cells and in bytes, the type of its slices and its own -/
structure Kd (α : Type) where
  enc : α → List Value
  s : Nat
  t : TypeId
  e : TypeId
  by' : Nat
structure KdOK {α : Type} (K : Kd α) : Prop where
  len : ∀ x, (K.enc x).length = K.s
  pos : 0 < K.s
  one : ∀ x, ∀ u ∈ K.enc x, u.oneCell' = true
  und : Tryz.prog.underlying K.t = some (.slice K.e)
  info : ∃ i z, Tryz.prog.info? K.e = some i ∧ i.zero = some z ∧ i.size = K.s ∧ i.bytes = K.by' ∧ z.cells.size = K.s
  small : K.by' ≤ 128
variable {α : Type} {K : Kd α}
def Kd.flat (K : Kd α) (L : List α) : List Value := L.flatMap K.enc
theorem flat_nil : K.flat [] = [] := rfl
theorem flat_append (L M : List α) : K.flat (L ++ M) = K.flat L ++ K.flat M := List.flatMap_append
theorem flat_sing (x : α) : K.flat [x] = K.enc x := by simp [Kd.flat]
theorem flat_len (h : KdOK K) (L : List α) : (K.flat L).length = L.length * K.s := by
  induction L with
  | nil => simp [Kd.flat]
  | cons r R ih =>
    have e : K.flat (r :: R) = K.enc r ++ K.flat R := by simp [Kd.flat]
    rw [e, List.length_append, ih, h.len, List.length_cons, Nat.add_mul, Nat.one_mul]
    omega
theorem flat_get (h : KdOK K) : ∀ (L : List α) (k : Nat) (hk : k < L.length) (j : Nat), j < K.s → (K.flat L)[k * K.s + j]? = (K.enc L[k])[j]?
  | [], k, hk, _, _ => by simp at hk
  | r :: R, 0, _, j, hj => by
    have e : K.flat (r :: R) = K.enc r ++ K.flat R := by simp [Kd.flat]
    rw [e, List.getElem?_append_left (by rw [h.len]; omega)]
    simp
  | r :: R, k + 1, hk, j, hj => by
    have e : K.flat (r :: R) = K.enc r ++ K.flat R := by simp [Kd.flat]
    have e2 : (k + 1) * K.s + j - (K.enc r).length = k * K.s + j := by rw [h.len, Nat.add_mul, Nat.one_mul]; omega
    rw [e, List.getElem?_append_right (by rw [h.len, Nat.add_mul, Nat.one_mul]; omega), e2, flat_get h R k (by simpa using hk) j hj]
    simp
theorem flat_one (h : KdOK K) (L : List α) : ∀ u ∈ K.flat L, u.oneCell' = true := fun u hu => by
  obtain ⟨r, hr, hx⟩ := List.mem_flatMap.1 hu
  exact h.one r u hx
/-- elements that lie somewhere -/
def Lies (K : Kd α) (W : World) (p : Option Addr) (L : List α) : Prop :=
  (p = none → L = []) ∧ ∀ k (hk : k < L.length), ∃ b off, p = some ⟨b, off, none⟩ ∧ b < W.heap.size ∧ W.rangeAt b (off + k * K.s) (K.enc L[k])
theorem Lies.nil (W : World) (p : Option Addr) : Lies K W p [] := ⟨fun _ => rfl, fun k hk => by simp at hk⟩
theorem Lies.drewN {W : World} {p : Option Addr} {L : List α} (h : Lies K W p L) (m : Nat) : Lies K (W.drewN m) p L :=
  ⟨h.1, fun k hk => by
    obtain ⟨b, off, e, hlt, hr⟩ := h.2 k hk
    exact ⟨b, off, e, by simpa using hlt, fun j u hu => by simpa using hr j u hu⟩⟩
theorem Lies.below {W W' : World} {p : Option Addr} {L : List α} (h : Lies K W p L) (hb : Below W.heap.size W W') : Lies K W' p L := by
  refine ⟨h.1, fun k hk => ?_⟩
  obtain ⟨b, off, e, hlt, hr⟩ := h.2 k hk
  exact ⟨b, off, e, Nat.lt_of_lt_of_le hlt hb.size, fun j u hu => (hb.cell (p := ⟨b, off + k * K.s + j, none⟩) hlt).trans (hr j u hu)⟩
theorem Lies.block {W W' : World} {b off : Nat} {L : List α} (h : Lies K W (some ⟨b, off, none⟩) L) (hs : W.heap.size ≤ W'.heap.size) (hb : W'.heap[b]? = W.heap[b]?) : Lies K W' (some ⟨b, off, none⟩) L := by
  refine ⟨h.1, fun k hk => ?_⟩
  obtain ⟨b', off', e, hlt, hr⟩ := h.2 k hk
  cases e
  exact ⟨b, off, rfl, Nat.lt_of_lt_of_le hlt hs, fun j u hu => (World.cell?_of_block (a := ⟨b, off + k * K.s + j, none⟩) hb).trans (hr j u hu)⟩
/-- a part of what lies there -/
theorem Lies.part {W : World} {b off : Nat} {L : List α} (h : Lies K W (some ⟨b, off, none⟩) L) (a m : Nat) : Lies K W (some ⟨b, off + a * K.s, none⟩) ((L.drop a).take m) := by
  refine ⟨(fun h => by cases h), fun k hk => ?_⟩
  rw [List.length_take, List.length_drop] at hk
  have hak : a + k < L.length := by omega
  obtain ⟨b', off', e, hlt, hr⟩ := h.2 (a + k) hak
  cases e
  refine ⟨b, off + a * K.s, rfl, hlt, ?_⟩
  rw [List.getElem_take, List.getElem_drop, Nat.add_assoc, ← Nat.add_mul]
  exact hr
theorem row_block {W : World} {B g e s n : Nat} {v : Value} {xs : List Value} (h : W.ownsRow B e s v n xs) (hg : v.ownBlock = some g) : B ≤ g ∧ g < W.heap.size ∧ ∃ o, W.heap[g]? = some o ∧ o.isCells = true := by
  rcases h.2 with ⟨e, h2⟩ | ⟨g', cap, cur, e, hB, hh, h3⟩
  · rw [e] at hg; cases hg
  · rw [e] at hg
    have e2 : g' = g := Option.some.inj hg
    subst e2
    exact ⟨hB, (Array.getElem?_eq_some_iff.1 hh).1, _, hh, rfl⟩
theorem row_keep {W W' : World} {B e s n : Nat} {v : Value} {xs : List Value} (h : W.ownsRow B e s v n xs) (hk : ∀ g, v.ownBlock = some g → W'.heap[g]? = W.heap[g]?) : W'.ownsRow B e s v n xs := by
  refine ⟨h.1, ?_⟩
  rcases h.2 with h2 | ⟨g, cap, cur, e, hB, hh, h3⟩
  · exact .inl h2
  · exact .inr ⟨g, cap, cur, e, hB, (hk g (by rw [e]; rfl)).trans hh, h3⟩
theorem row_le {W : World} {B B' e s n : Nat} {v : Value} {xs : List Value} (h : W.ownsRow B e s v n xs) (hb : B' ≤ B) : W.ownsRow B' e s v n xs := by
  refine ⟨h.1, ?_⟩
  rcases h.2 with h2 | ⟨g, cap, cur, e, hB, h3⟩
  · exact .inl h2
  · exact .inr ⟨g, cap, cur, e, Nat.le_trans hb hB, h3⟩
theorem row_slice {W : World} {B e s n : Nat} {v : Value} {xs : List Value} (h : W.ownsRow B e s v n xs) : ∃ p c, v = .slice p n c ∧ (p = none → n = 0 ∧ c = 0) ∧ (∀ a, p = some a → a.off = 0 ∧ a.spot = none ∧ B ≤ a.block ∧ n ≤ c) := by
  rcases h.2 with ⟨e, h2⟩ | ⟨g, cap, cur, e, hB, hh, hc, h3⟩
  · exact ⟨none, 0, by rw [e, h2], (fun _ => ⟨h2, rfl⟩), (fun a h => by cases h)⟩
  · exact ⟨_, _, e, (fun h => by cases h), (fun a h => by cases h; exact ⟨rfl, rfl, hB, by omega⟩)⟩
theorem own_lies (hK : KdOK K) {W : World} {B : Nat} {p : Option Addr} {c n : Nat} {L : List α} (hn : L.length = n) (h : W.ownsRow B K.e K.s (.slice p n c) n (K.flat L)) : Lies K W p L := by
  rcases h.2 with ⟨e, h2⟩ | ⟨g, cap, cur, e, hB, hh, hc, hm, hcs, ht⟩
  · have : L = [] := List.eq_nil_of_length_eq_zero (by omega)
    subst this
    exact Lies.nil _ _
  · cases e
    refine ⟨(fun h => by cases h), fun k hk => ⟨g, 0, rfl, (Array.getElem?_eq_some_iff.1 hh).1, fun j u hu => ?_⟩⟩
    have hj : j < K.s := by
      have := (List.getElem?_eq_some_iff.1 hu).1
      rwa [hK.len] at this
    have h3 := flat_get hK L k hk j hj
    rw [hu] at h3
    have hk2 : (cur.toList.take (n * K.s))[k * K.s + j]? = some u := by rw [ht]; exact h3
    have hlt : k * K.s + j < n * K.s := by
      have : (k + 1) * K.s ≤ n * K.s := Nat.mul_le_mul_right _ (by omega)
      rw [Nat.add_mul, Nat.one_mul] at this
      omega
    rw [List.getElem?_take_of_lt hlt] at hk2
    unfold World.cell?
    simp only [hh, Nat.zero_add]
    simpa using hk2
theorem news_of (hK : KdOK K) {W : World} {ad : Addr} {L : List α} (hu : Lies K W (some ad) L) : ∀ j u, (K.flat L)[j]? = some u → W.cell? (ad.add j) = some u := fun j u hj => by
  have hjl : j < L.length * K.s := by
    have := (List.getElem?_eq_some_iff.1 hj).1
    rwa [flat_len hK] at this
  have hk : j / K.s < L.length := Nat.div_lt_of_lt_mul (by rw [Nat.mul_comm]; exact hjl)
  obtain ⟨b, off, e, hlt, hr⟩ := hu.2 (j / K.s) hk
  have e' : ad = ⟨b, off, none⟩ := Option.some.inj e
  subst e'
  have e9 : j / K.s * K.s + j % K.s = j := Nat.div_add_mod' j K.s
  rw [Addr.add_mid]
  have h3 := flat_get hK L (j / K.s) hk (j % K.s) (Nat.mod_lt _ hK.pos)
  rw [e9, hj] at h3
  have h4 := hr (j % K.s) u h3.symm
  rw [Nat.add_assoc, e9] at h4
  exact h4
set_option maxRecDepth 100000 in
/-- an append of elements that lie somewhere, to a list that the call owns -/
theorem run_app (hK : KdOK K) {W : World} {B : Nat} {v : Value} {L M : List α} {n : Nat} (ty : TypeId) (h : W.ownsRow B K.e K.s v n (K.flat L)) (hB : B ≤ W.heap.size) (pu : Option Addr) (cu : Nat) (hcu : pu = none → cu = 0) (hu : Lies K W pu M) (hl : n + M.length ≤ 1099511627776) :
    ∃ p' c' w', (Builtin.append_ #[K.t, K.t] ty #[v, .slice pu M.length cu]).run Tryz.prog W = .ok (.slice p' (n + M.length) c') w' ∧ w'.ownsRow B K.e K.s (.slice p' (n + M.length) c') (n + M.length) (K.flat (L ++ M)) ∧ Below B W w' ∧ (∀ k, k < W.heap.size → v.ownBlock ≠ some k → w'.heap[k]? = W.heap[k]?) ∧ ((Value.slice p' (n + M.length) c').ownBlock = v.ownBlock ∨ (Value.slice p' (n + M.length) c').ownBlock = some W.heap.size) := by
  obtain ⟨i, z, hi, hz, hsize, hby, hzs⟩ := hK.info
  cases pu with
  | none =>
    have hR := hu.1 rfl
    subst hR
    rw [hcu rfl]
    have hr := run_append_owned_none (P := Tryz.prog) (w := W) B K.t ty K.e i K.s hK.und hi v n (K.flat L) h
    obtain ⟨p, c, e, _⟩ := row_slice h
    subst e
    exact ⟨p, c, W, hr, by rw [List.append_nil]; exact h, Below.refl _ _, fun _ _ _ => rfl, .inl rfl⟩
  | some ad =>
    obtain ⟨v', w', hr, ho, hg, hnil, hat⟩ := run_append_own_at (P := Tryz.prog) W B K.t ty K.e i z K.s K.by' hK.und hi hz hsize hby hzs hK.pos v n (K.flat L) h ad M.length cu (K.flat M) (flat_len hK M) (news_of hK hu) (flat_one hK M) (by unfold maxLen; omega) (by
      have h1 := hK.small
      have : (n + M.length) * K.by' ≤ 1099511627776 * 128 := Nat.mul_le_mul hl h1
      omega) hB
    rw [← flat_append] at ho
    obtain ⟨p, c, e, _⟩ := row_slice ho
    subst e
    refine ⟨p, c, w', hr, ho, ⟨hg.os, hg.tape, hg.output, hg.size, fun q hq => hg.block q (Nat.lt_of_lt_of_le hq hB) (fun e => ?_)⟩, fun k hk hne => hg.block k hk (fun e => hne e.symm), hat⟩
    have := (row_block h e.symm).1
    omega
/-- an append as an operation of a region, by its run -/
theorem wpList_append_run {P : Program} {w : World} {ops : Array Oper} {rest : List Oper} {o : Oper} {a : Act} {Q : Exit → Act → World → Prop} (hgd : o.guard = none) (s x : Operand) (t : TypeId)
    (ho : o.op = .call { callee := .builtin .append, args := #[s, x], argTypes := #[t, t] }) (v u v' : Value) (w' : World) (hs : a.eval s = v) (hx : a.eval x = u) (hr : (Builtin.append_ #[t, t] o.type #[v, u]).run P w = .ok v' w')
    (h : wpList P ops Q rest (a.put o.dst v') w') : wpList P ops Q (o :: rest) a w := by
  refine wpList_plain hgd fun K hK => ?_
  unfold Oper.wp execOp
  simp only [ho, resolve, invoke, builtin, Sem.run_bind, Sem.run_pure, Result.andThen_ok, List.map_toArray, List.map_cons, List.map_nil, hs, hx, hr]
  exact hK _ _ h
/-- a block of one element -/
theorem one_lies (W : World) (x : α) (t : TypeId) (vs : Array Value) (hv : vs.toList = K.enc x) : Lies K (W.alloc (.cells vs t)) (some ⟨W.heap.size, 0, none⟩) [x] := by
  refine ⟨(fun h => by cases h), fun k hk => ?_⟩
  have e : k = 0 := by simp at hk; exact hk
  subst e
  refine ⟨W.heap.size, 0, rfl, by simp, fun j u hu => ?_⟩
  rw [World.cell?_alloc_mark, Nat.zero_mul, Nat.zero_add]
  rw [show ([x] : List α)[0] = x from rfl, ← hv] at hu
  simpa using hu
theorem kd_ok {K : Kd α} (len : ∀ x, (K.enc x).length = K.s) (pos : 0 < K.s) (one : ∀ x, ∀ u ∈ K.enc x, u.oneCell' = true) (und : Tryz.prog.underlying K.t = some (.slice K.e)) {z : Value} (info : (Tryz.prog.info? K.e).map (fun i => (i.zero, i.size, i.bytes)) = some (some z, K.s, K.by')) (hz : z.cells.size = K.s) (small : K.by' ≤ 128) : KdOK K := by
  obtain ⟨i, h1, h2, h3, h4⟩ := info_parts info
  exact ⟨len, pos, one, und, ⟨i, z, h1, h2, h3, h4, hz⟩, small⟩
end Go.Proofs.YtcafhmlpmbkhkaaGreatDoor
