/- first (6). -/
import Derived.Test.YtgimeecklmmbjaaDoorChT
namespace Go.Proofs.YtgimeecklmmbjaaDoor
open Go Go.Shelf Go.ChangeShapes Go.WideShapes Go.ChangeAt Go.RowKit Go.Maps Go.Sort
set_option linter.unusedVariables false
theorem New.below {W X w' : World} {d : Nat} {L : List Ac} (h : New W d L X) (hb : Below X.heap.size X w') : New W d L w' := by
  obtain ⟨S, g, h1, h2, h3⟩ := h
  exact ⟨S, g, h1.below hb, h2, h3.trans (hb.mono h3.size)⟩
theorem New.bel {W X : World} {d : Nat} {L : List Ac} (h : New W d L X) : Below W.heap.size W X := by
  obtain ⟨S, g, h1, h2, h3⟩ := h
  exact h3
theorem new_new (W : World) : Calls Tryd.prog 12 #[] W fun e w' => e = .returned (ptr W.heap.size) ∧ New W W.heap.size [] w' := by
  refine (new_any W).mono ?_
  rintro e w' ⟨rfl, rfl⟩
  exact ⟨rfl, _, _, new_ct W, fun k hk => by omega, (Below.refl _ W).alloc (Nat.le_refl _) _⟩
theorem new_open {W X : World} {d : Nat} {L : List Ac} (h : New W d L X) (tx : ByteArray) (htx : tx.size < 4611686018427387904) (t z : Int) (ht : -9223372036854775808 ≤ t ∧ t ≤ 9223372036854775807) :
    Calls Tryd.prog 15 #[ptr d, .string tx, .int .i64 t, .int .i64 z] X fun e w' => e = .returned (.int .i64 (openE L tx.data.toList t z)) ∧ New W d (openL L tx.data.toList t z) w' := by
  obtain ⟨S, g, h1, h2, h3⟩ := h
  refine (open_any h1 tx htx t z ht).mono ?_
  rintro e w' ⟨rfl, ho⟩
  exact ⟨rfl, New.chg (L := L) h2 h3 ho⟩
theorem new_close {W X : World} {d : Nat} {L : List Ac} (h : New W d L X) (tx : ByteArray) (htx : tx.size < 4611686018427387904) :
    Calls Tryd.prog 16 #[ptr d, .string tx] X fun e w' => e = .returned (.int .i64 (closeE L tx.data.toList)) ∧ New W d (if closeE L tx.data.toList = 0 then clA L tx.data.toList else L) w' := by
  obtain ⟨S, g, h1, h2, h3⟩ := h
  refine (close_any h1.ch h1.good h1.inh tx htx).mono ?_
  rintro e w' ⟨rfl, ho⟩
  exact ⟨rfl, New.chg (L := L) h2 h3 (chg_close h1 ho)⟩
theorem new_may {W X : World} {d : Nat} {L : List Ac} (h : New W d L X) (tx : ByteArray) (htx : tx.size < 4611686018427387904) (z : Int) :
    Calls Tryd.prog 21 #[ptr d, .string tx, .int .i64 z] X fun e w' => e = .returned (.int .i64 (mayE L tx.data.toList z)) ∧ New W d L w' := by
  have h' := h
  obtain ⟨S, g, h1, h2, h3⟩ := h
  refine (may_any h1 tx htx z).mono ?_
  rintro e w' ⟨rfl, ho⟩
  exact ⟨rfl, h'.below ho⟩
theorem new_accounts {W X : World} {d : Nat} {L : List Ac} (h : New W d L X) :
    Calls Tryd.prog 9 #[ptr d] X fun e w' => AccOut X L e w' ∧ New W d L w' := by
  have h' := h
  obtain ⟨S, g, h1, h2, h3⟩ := h
  refine (accounts_any h1.ch h1.good h1.inh).mono ?_
  rintro e w' ho
  have hb : Below X.heap.size X w' := by
    obtain ⟨p, c, _, _, _, _, hb⟩ := ho
    exact hb
  exact ⟨ho, h'.below hb⟩
theorem new_kids {W X : World} {d : Nat} {L : List Ac} (h : New W d L X) (tx : ByteArray) (htx : tx.size < 4611686018427387904) :
    Calls Tryd.prog 18 #[ptr d, .string tx] X fun e w' => KidsOut X (kids L tx.data.toList) e w' ∧ New W d L w' := by
  have h' := h
  obtain ⟨S, g, h1, h2, h3⟩ := h
  refine (kids_any h1 tx htx).mono ?_
  rintro e w' ho
  exact ⟨ho, h'.below ho.1⟩
theorem new_kids_own {W X : World} {d : Nat} {L : List Ac} (h : New W d L X) (tx : ByteArray) (htx : tx.size < 4611686018427387904) :
    Calls Tryd.prog 18 #[ptr d, .string tx] X fun e w' => KidsOwn X (kids L tx.data.toList) e w' ∧ New W d L w' := by
  have h' := h
  obtain ⟨S, g, h1, h2, h3⟩ := h
  refine (kids_own h1 tx htx).mono ?_
  rintro e w' ho
  exact ⟨ho, h'.below ho.1.1⟩
theorem new_find {W X : World} {d : Nat} {L : List Ac} (h : New W d L X) (tx : ByteArray) (htx : tx.size < 4611686018427387904) :
    Calls Tryd.prog 14 #[ptr d, .string tx] X fun e w' => e = .returned (.tuple #[acV (findA L tx.data.toList), .bool (fnd L tx.data.toList).isSome]) ∧ New W d L w' ∧ Below X.heap.size X w' := by
  have h' := h
  obtain ⟨S, g, h1, h2, h3⟩ := h
  refine (find_any h1 tx htx).mono ?_
  rintro e w' ⟨rfl, hb⟩
  exact ⟨rfl, h'.below hb, hb⟩
def fL1 : List Ac := [⟨[65], 1, 5, false⟩]
def fL2 : List Ac := [⟨[65], 1, 5, false⟩, ⟨[65, 58, 66], 1, 6, false⟩]
theorem f_o1 : openE [] [65] 1 5 = 0 := by decide
theorem f_l1 : openL [] [65] 1 5 = fL1 := by kernel_rfl
theorem f_o2 : openE fL1 [65, 58, 66] 0 6 = 0 := by decide
theorem f_l2 : openL fL1 [65, 58, 66] 0 6 = fL2 := by kernel_rfl
theorem f_m : mayE fL2 [65, 58, 66] 6 = 0 := by decide
theorem f_c : closeE fL2 [65] = 65 := by decide
theorem f_k : kids fL2 [65] = [[65, 58, 66]] := by decide

section
attribute [local go_sem ↓] ld41_is
set_option maxRecDepth 100000 in
set_option maxHeartbeats 4000000 in
theorem first_any (W : World) : Calls Tryd.prog 6 #[] W fun e w' => e = .returned (.bool true) ∧ Below W.heap.size W w' := by
  obtain ⟨d, hd⟩ : ∃ d, d = W.heap.size := ⟨_, rfl⟩
  have dN := hide (new_new W)
  rw [← hd] at dN
  have o1 : Hid (∀ X, New W d [] X → Calls Tryd.prog 15 #[ptr d, .string ⟨#[65]⟩, .int .i64 1, .int .i64 5] X fun e w' => e = .returned (.int .i64 0) ∧ New W d fL1 w') := fun X h => by
    have := new_open h ⟨#[65]⟩ (by decide) 1 5 (by omega)
    rw [show (ByteArray.mk #[65]).data.toList = [65] from rfl, f_o1, f_l1] at this
    exact this
  have o2 : Hid (∀ X, New W d fL1 X → Calls Tryd.prog 15 #[ptr d, .string ⟨#[65, 58, 66]⟩, .int .i64 0, .int .i64 6] X fun e w' => e = .returned (.int .i64 0) ∧ New W d fL2 w') := fun X h => by
    have := new_open h ⟨#[65, 58, 66]⟩ (by decide) 0 6 (by omega)
    rw [show (ByteArray.mk #[65, 58, 66]).data.toList = [65, 58, 66] from rfl, f_o2, f_l2] at this
    exact this
  have o3 : Hid (∀ X, New W d fL2 X → Calls Tryd.prog 21 #[ptr d, .string ⟨#[65, 58, 66]⟩, .int .i64 6] X fun e w' => e = .returned (.int .i64 0) ∧ New W d fL2 w') := fun X h => by
    have := new_may h ⟨#[65, 58, 66]⟩ (by decide) 6
    rw [show (ByteArray.mk #[65, 58, 66]).data.toList = [65, 58, 66] from rfl, f_m] at this
    exact this
  have o4 : Hid (∀ X, New W d fL2 X → Calls Tryd.prog 16 #[ptr d, .string ⟨#[65]⟩] X fun e w' => e = .returned (.int .i64 65) ∧ New W d fL2 w') := fun X h => by
    have := new_close h ⟨#[65]⟩ (by decide)
    rw [show (ByteArray.mk #[65]).data.toList = [65] from rfl, f_c, if_neg (by decide)] at this
    exact this
  have o5 : Hid (∀ X, New W d fL2 X → Calls Tryd.prog 9 #[ptr d] X fun e w' => AccOut X fL2 e w' ∧ New W d fL2 w') := fun X h => new_accounts h
  have o6 : Hid (∀ X, New W d fL2 X → Calls Tryd.prog 18 #[ptr d, .string ⟨#[65]⟩] X fun e w' => KidsOut X [[65, 58, 66]] e w' ∧ New W d fL2 w') := fun X h => by
    have := new_kids h ⟨#[65]⟩ (by decide)
    rw [show (ByteArray.mk #[65]).data.toList = [65] from rfl, f_k] at this
    exact this
  clear hd
  go_enter Tryd.func6, Tryd.ntmps6
  go_upto_region 2 with (go_at_call 12; refine (unhide dN).mono ?_; rintro e X0 ⟨rfl, hn⟩; have N0 := hide hn; clear hn)
  go_upto_region 4 with first
    | (go_at_call 15; with_reducible refine (unhide o1 _ (unhide N0)).mono ?_; rintro e X1 ⟨rfl, hn⟩; have N1 := hide hn; clear hn)
    | (go_at_call 15; with_reducible refine (unhide o2 _ (unhide N1)).mono ?_; rintro e X2 ⟨rfl, hn⟩; have N2 := hide hn; clear hn)
    | (go_at_call 21; with_reducible refine (unhide o3 _ (unhide N2)).mono ?_; rintro e X3 ⟨rfl, hn⟩; have N3 := hide hn; clear hn)
    | (go_at_call 16; with_reducible refine (unhide o4 _ (unhide N3)).mono ?_; rintro e X4 ⟨rfl, hn⟩; have N4 := hide hn; clear hn)
  go_upto_region 5 with (go_at_call 9; refine (unhide o5 _ (unhide N4)).mono ?_; rintro e X5 ⟨ha, hn⟩; obtain ⟨p, c, rfl, hlies, hp, _, hab⟩ := ha; have N5 := hide hn; have HLI := hide hlies; clear hn hp hab hlies)
  go_upto_region 6 with (go_at_call 18; refine (unhide o6 _ (unhide N5)).mono ?_; rintro e X6 ⟨hk, hn⟩; obtain ⟨hkb, pk, rfl, hkc⟩ := hk; have N6 := hide hn; have HKB := hide hkb; have HKC := hide hkc; clear hn hkb hkc)
  obtain ⟨b, off, hp, hbW, hr⟩ := (unhide HLI).2 1 (by decide)
  subst hp
  have hr6 : X6.rangeAt b (off + 4) (vals4 ⟨[65, 58, 66], 1, 6, false⟩) := fun j v hv => ((unhide HKB).cell (p := ⟨b, off + 4 + j, none⟩) hbW).trans (hr j v hv)
  have hl1 := run_ld41 hr6
  obtain ⟨bk, hpk, _, hbk, hck⟩ := unhide HKC 0 (by decide)
  subst hpk
  have hck1 : X6.cell? ⟨bk, 0, none⟩ = some (.string ⟨#[65, 58, 66]⟩) := hck
  have hb2 : ∀ w, (Op.equalIn 10000 41 (acV ⟨[65, 58, 66], 1, 6, false⟩) (acV ⟨[65, 58, 66], 1, 6, false⟩)).run Tryd.prog w = .ok true w := fun w => by rw [eq41, eqB_self]
  have et : txN [65, 58, 66] = ⟨#[65, 58, 66]⟩ := rfl
  unfold acV at hl1 hb2
  simp only [et] at hl1 hb2
  have hst := st41
  have hsh := sh41
  have heg := eg41
  have B6 := hide (unhide N6).bel
  have e2 : fL2.length = 2 := rfl
  simp only [e2]
  clear hr hr6 hbW hck hbk et
  go_wp2_with fail
  go_ret
  exact ⟨rfl, unhide B6⟩
end
end Go.Proofs.YtgimeecklmmbjaaDoor
