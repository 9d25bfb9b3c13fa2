/- disk: Create (22). -/
import Derived.Test.YtpeohbkigkfcgaaDkD
import Derived.Deep.RegionHeld3
import Derived.Deep.RegionLaw
import Derived.Deep.RegionHeldLaw
namespace Go.Proofs.Ytpeohbkigkfcgaa
open Go Go.Shelf Go.ChangeShapes Go.WideShapes Go.ChangeAt Go.RowKit
set_option linter.unusedVariables false
theorem All2.len {α β : Type} {R : α → β → Prop} {l : List α} {m : List β} (h : All2 R l m) : l.length = m.length := by
  induction h with
  | nil => rfl
  | cons _ _ ih => simp [ih]
/-- why a new file is refused -/
def whyK (s : ByteArray) (K : Dk) : Int := if nameS s = false then 32 else if (getF s.data.toList K.A).isSome = true then 33 else if 64 ≤ K.A.length then 2 else 0
set_option maxRecDepth 100000 in
set_option maxHeartbeats 4000000 in
theorem why_ok {w : World} {d N n : Nat} {K : Dk} {S : Nat → Prop} {mo : Option Nat} {es : List (Lit × DataW Value)} (h : DiskIs w d N K S mo n es) (s : ByteArray) (hs : s.size ≤ maxLen) :
    Calls Try.prog 41 #[.pointer (some ⟨d, 0, none⟩), .string s] w fun e w' => e = .returned (.int .i64 (whyK s K)) ∧ Below w.heap.size w w' := by
  have hel := h.fs.all.len
  have hdl := h.at'.lt
  have HD := hide h
  clear h
  go_enter Try.func41, Try.ntmps41
  go_wp2_with fail
  refine (find_ok (unhide HD) s hs).mono ?_
  rintro e w1 ⟨⟨p, m, c, y, er, rfl, hfo⟩, hb1⟩
  have he := hfo.1
  have B1 := hide hb1
  have D1 : Hid (DiskIs (w1.alloc (.cells #[.slice p m c, .int .i64 y] 67)) d N K S mo n es) := ((unhide HD).below hb1).below (bal (Below.refl w1.heap.size w1) _)
  have B2 : Hid (Below w.heap.size w (w1.alloc (.cells #[.slice p m c, .int .i64 y] 67))) := bal hb1 _
  clear hb1 hfo
  unfold erF at he
  by_cases h1 : nameS s = false
  · rw [if_pos h1] at he
    subst he
    have hv : whyK s K = 32 := by unfold whyK; rw [if_pos h1]
    go_wp2_with fail
    go_ret
    exact ⟨by rw [hv]; rfl, unhide B2⟩
  · rw [if_neg h1] at he
    by_cases h2 : (getF s.data.toList K.A).isSome = true
    · rw [if_pos h2] at he
      subst he
      have hv : whyK s K = 33 := by unfold whyK; rw [if_neg h1, if_pos h2]
      go_wp2_with fail
      go_ret
      exact ⟨by rw [hv]; rfl, unhide B2⟩
    · rw [if_neg h2] at he
      subst he
      have dc := (unhide D1).at'.c1
      rcases (unhide D1).at'.files with ⟨rfl, hes⟩ | ⟨b, rfl, hm⟩
      · injection hes with hes
        have hv : whyK s K = 0 := by unfold whyK; rw [if_neg h1, if_neg h2, if_neg (by rw [← hel, hes]; simp)]
        clear hes
        go_wp2_with fail
        go_ret
        exact ⟨by rw [hv]; rfl, unhide B2⟩
      · have HM := hide hm
        have hsz : Maps.size (DataW.map es) = K.A.length := by rw [Maps.size_eq, hel]
        clear hm
        by_cases h64 : 64 ≤ K.A.length
        · have hv : whyK s K = 2 := by unfold whyK; rw [if_neg h1, if_neg h2, if_pos h64]
          have i1 : (64 : Int) ≤ (Maps.size (DataW.map es) : Int) := by rw [hsz]; omega
          go_wp2_with (at_len; refine wpList_len_own _ rfl _ 62 rfl 9 67 Try.underlying62 fileElem b n _ rfl (unhide HM) ?_)
          go_ret
          exact ⟨by rw [hv]; rfl, unhide B2⟩
        · have hv : whyK s K = 0 := by unfold whyK; rw [if_neg h1, if_neg h2, if_neg h64]
          have i1 : ¬ (64 : Int) ≤ (Maps.size (DataW.map es) : Int) := by rw [hsz]; omega
          go_wp2_with (at_len; refine wpList_len_own _ rfl _ 62 rfl 9 67 Try.underlying62 fileElem b n _ rfl (unhide HM) ?_)
          go_ret
          exact ⟨by rw [hv]; rfl, unhide B2⟩
def newA (s : ByteArray) (K : Dk) : Fs := putF s.data.toList ⟨[], 0⟩ K.A
set_option maxRecDepth 100000 in
set_option maxHeartbeats 4000000 in
theorem create_do (s : ByteArray) (hs : s.size ≤ maxLen) (B0 B1 : Nat) {w : World} {d N n : Nat} {K : Dk} {S : Nat → Prop} {mo : Option Nat} {es : List (Lit × DataW Value)} (h : DiskIs w d N K S mo n es) (hN : N < 1000000)
    (k0 : w.cell? ⟨B0, 0, none⟩ = some (.pointer (some ⟨d, 0, none⟩))) (k1 : w.cell? ⟨B1, 0, none⟩ = some (.string s)) :
    Calls Try.prog 42 #[.pointer (some ⟨B0, 0, none⟩), .pointer (some ⟨B1, 0, none⟩)] w fun e w' => (∃ v, e = .returned v) ∧ ∃ S', DiskOK w' d (N + 1) { K with A := newA s K } S' ∧ Sep w w' S S' := by
  have HP := hide (put_is h hN s hs none 0 ⟨[], 0⟩ (World.ownsRow_nil _ _ _ _) (fun q hq => by cases hq))
  clear h
  go_enter Try.func42, Try.ntmps42
  go_wp2_with fail
  refine (unhide HP).mono ?_
  rintro e w' ⟨⟨r, rfl⟩, h⟩
  have H := hide h
  clear h
  go_wp2_with fail
  go_end0
  exact ⟨⟨_, rfl⟩, unhide H⟩
set_option maxRecDepth 100000 in
set_option maxHeartbeats 4000000 in
theorem create_ok {w : World} {d N n : Nat} {K : Dk} {S : Nat → Prop} {mo : Option Nat} {es : List (Lit × DataW Value)} (h : DiskIs w d N K S mo n es) (hN : N < 1000000) (hf1 : K.fuse ≤ 9223372036854775807) (s : ByteArray) (hs : s.size ≤ maxLen) :
    Calls Try.prog 22 #[.pointer (some ⟨d, 0, none⟩), .string s] w fun e w' => e = .returned (.int .i64 (chgK K (whyK s K) (newA s K)).2) ∧ ∃ S', DiskOK w' d (N + 1) (chgK K (whyK s K) (newA s K)).1 S' ∧ Sep w w' S S' := by
  have hdl := h.at'.lt
  have HD := hide h
  obtain ⟨R, hR⟩ : ∃ R, R = chgK K (whyK s K) (newA s K) := ⟨_, rfl⟩
  rw [← hR]
  have HR := hide hR
  clear h hR
  obtain ⟨w2, hw2⟩ : ∃ w2, w2 = ((w.alloc (.cells #[.pointer (some ⟨d, 0, none⟩)] 23)).alloc (.cells #[.string s] 9)).drew := ⟨_, rfl⟩
  have B2 : Hid (Below w.heap.size w w2) := by rw [hw2]; exact below_drewN (bal (bal (Below.refl w.heap.size w) _) _) 1
  have hz2 : w2.heap.size = w.heap.size + 1 + 1 := by rw [hw2]; simp
  have k0 : w2.cell? ⟨w.heap.size, 0, none⟩ = some (.pointer (some ⟨d, 0, none⟩)) := by rw [hw2]; simp
  have k1 : w2.cell? ⟨w.heap.size + 1, 0, none⟩ = some (.string s) := by rw [hw2]; simp
  have HC := hide (why_ok ((unhide HD).below (unhide B2)) s hs)
  have HX : Hid (∀ w3, Below w2.heap.size w2 w3 → Calls Try.prog 40 #[.pointer (some ⟨d, 0, none⟩), .int .i64 (whyK s K), .func (.func 42) #[] #[.pointer (some ⟨w.heap.size, 0, none⟩), .pointer (some ⟨w.heap.size + 1, 0, none⟩)]] w3 fun e w' => e = .returned (.int .i64 R.2) ∧ (∃ S', DiskOK w' d (N + 1) R.1 S' ∧ Sep w w' S S') ∧ w'.cell? ⟨w.heap.size, 0, none⟩ = some (.pointer (some ⟨d, 0, none⟩)) ∧ w'.cell? ⟨w.heap.size + 1, 0, none⟩ = some (.string s)) := by
    intro w3 hb3
    have B3 : Below w.heap.size w w3 := (unhide B2).trans (hb3.mono (by omega))
    have q0 := keep1 hb3 (by omega) k0
    have q1 := keep1 hb3 (by omega) k1
    refine (change_ok ((unhide HD).below B3) hf1 (whyK s K) (newA s K) 42 _ (enters_of Try.func42 (by kernel_rfl) rfl) ?hdo).mono ?fin
    case hdo =>
      rintro hdn he0 hf0 w1 z hor hD1
      exact create_do s hs w.heap.size (w.heap.size + 1) hD1 hN ((cells_or hor _ (by show w.heap.size ≠ d; omega)).trans q0) ((cells_or hor _ (by show w.heap.size + 1 ≠ d; omega)).trans q1)
    case fin =>
      rintro e w5 ⟨rfl, S', hok, hsep⟩
      rw [← unhide HR] at hok ⊢
      have hz3 := hb3.size
      exact ⟨rfl, ⟨S', hok, (Sep.of_below S B3).trans hsep⟩, (World.cell?_of_block (a := ⟨w.heap.size, 0, none⟩) (hsep.block _ (by show w.heap.size < _; omega) (fun h' => by have : w.heap.size < w.heap.size := (unhide HD).sl _ h'; omega))).trans q0, (World.cell?_of_block (a := ⟨w.heap.size + 1, 0, none⟩) (hsep.block _ (by show w.heap.size + 1 < _; omega) (fun h' => by have : w.heap.size + 1 < w.heap.size := (unhide HD).sl _ h'; omega))).trans q1⟩
  rw [hw2] at HC HX
  have kk := hide (And.intro k0 k1)
  rw [hw2] at kk
  clear k0 k1
  go_enter Try.func22, Try.ntmps22
  go_wp2_with fail
  go_region_held3 (fun W => W.cell? ⟨w.heap.size, 0, none⟩ = some (.pointer (some ⟨d, 0, none⟩)) ∧ W.cell? ⟨w.heap.size + 1, 0, none⟩ = some (.string s)) (first | (refine ⟨?_, ?_⟩ <;> with_reducible assumption) | go_keep)
    (first
    | (go_at_call 41; refine (unhide HC).mono ?_; rintro e w3 ⟨rfl, hb3⟩; have HB3 := hide hb3; have ka := keep1 hb3 (by simp; omega) (unhide kk).1; have kb := keep1 hb3 (by simp) (unhide kk).2; clear hb3)
    | (go_at_call 40; refine (unhide HX w3 (unhide HB3)).mono ?_; rintro e w5 ⟨rfl, hres, kc, kd⟩; have HRES := hide hres; clear hres))
  all_goals go_wp2_with fail
  all_goals go_ret
  all_goals exact ⟨rfl, unhide HRES⟩
end Go.Proofs.Ytpeohbkigkfcgaa
