/- disk: Append (23) whole. -/
import Derived.Test.YtpeohbkigkfcgaaDkH
import Derived.Shelf.RegionOpenPlain
namespace Go.Proofs.Ytpeohbkigkfcgaa
open Go Go.Shelf Go.ChangeShapes Go.WideShapes Go.ChangeAt Go.RowKit
set_option linter.unusedVariables false
/-- a world behind w, whose old blocks stand -/
structure Bel (w : World) where
  W : World
  h : Below w.heap.size w W
instance (w : World) : Inhabited (Bel w) := ⟨⟨w, Below.refl _ _⟩⟩
theorem wp_region_quiet_below {id : Nat} {Q : Exit → Act → World → Prop} {a : Act} {w : World} {l : List Oper} (hm : Try.prog.follows .mixedOrders = true) (hB : Region.lexB .any l.toArray = true)
    (h : wpQuiet Try.prog l.toArray (fun w' => ∃ p : Bel w, w' = p.W) (fun a' => ∀ w', (∃ p : Bel w, w' = p.W) → Q .normal a' w') l a) : (Code.region id l.toArray true).wp Try.prog Q a w :=
  wp_region_quiet (C := fun w' => ∃ p : Bel w, w' = p.W) hm hB ⟨⟨w.drew, below_drewN (Below.refl _ w) 1⟩, rfl⟩ (by simpa using h)
theorem get_le_tot {A : Fs} {k : List UInt8} {x : Fl} (h : getF k A = some x) : x.bs.length ≤ totF A := by
  induction A with
  | nil => simp [getF] at h
  | cons a A ih =>
    unfold getF at h
    rw [List.find?_cons] at h
    have ht : totF (a :: A) = a.2.bs.length + totF A := by simp [totF]
    rw [ht]
    split at h
    · simp only [Option.map_some, Option.some.injEq] at h
      rw [h]
      omega
    · have := ih h
      omega
def erA (s : ByteArray) (b2 : List UInt8) (K : Dk) : Int := if erF s K = 0 ∧ K.cap - (totF K.A : Int) < (b2.length : Int) then 30 else erF s K
def appA (s : ByteArray) (b2 : List UInt8) (K : Dk) : Fs := match getF s.data.toList K.A with
  | some x => putF s.data.toList ⟨x.bs ++ b2, x.sy⟩ K.A
  | none => K.A
theorem BytesAt.below {W W' : World} {u : Value} {bs : List UInt8} (h : BytesAt W u bs) (hb : Below W.heap.size W W') : BytesAt W' u bs := by
  rcases h with h | ⟨b, off, c, rfl, h⟩
  · exact .inl h
  · refine .inr ⟨b, off, c, rfl, fun j u hj => ?_⟩
    have h1 := h j u hj
    exact (hb.cell (p := ⟨b, off + j, none⟩) (World.block_lt_of_cell? W _ h1)).trans h1
theorem cell_top3 (w : World) (o1 o2 : Obj) (v : Value) {t : TypeId} : (((w.alloc o1).alloc o2).alloc (.cells #[v] t)).cell? ⟨w.heap.size + 1 + 1, 0, none⟩ = some v := by
  have h : ((w.alloc o1).alloc o2).heap.size = w.heap.size + 1 + 1 := by rw [World.size_alloc, World.size_alloc]
  rw [← h]
  generalize (w.alloc o1).alloc o2 = W
  simp
set_option maxRecDepth 100000 in
set_option maxHeartbeats 4000000 in
theorem append_ok {w : World} {d N n : Nat} {K : Dk} {S : Nat → Prop} {mo : Option Nat} {es : List (Lit × DataW Value)} (h : DiskIs w d N K S mo n es) (hN : N < 1000000) (hf1 : K.fuse ≤ 9223372036854775807) (hc : K.cap ≤ 1048576) (hc0 : 0 ≤ K.cap) (ht : totF K.A ≤ 1048576) (s : ByteArray) (hs : s.size ≤ maxLen) (pu : Option Addr) (cu : Nat) (b2 : List UInt8) (hu : BytesAt w (.slice pu b2.length cu) b2) (hus : ∀ q, (Value.slice pu b2.length cu).ownBlock = some q → q ≠ d) :
    Calls Try.prog 23 #[.pointer (some ⟨d, 0, none⟩), .string s, .slice pu b2.length cu] w fun e w' => e = .returned (.int .i64 (chgK K (erA s b2 K) (appA s b2 K)).2) ∧ ∃ S', DiskOK w' d (N + 1) (chgK K (erA s b2 K) (appA s b2 K)).1 S' ∧ Sep w w' S S' := by
  have hdl := h.at'.lt
  have HD := hide h
  have HU := hide hu
  obtain ⟨R, hR⟩ : ∃ R, R = chgK K (erA s b2 K) (appA s b2 K) := ⟨_, rfl⟩
  rw [← hR]
  have HR := hide hR
  have hnS : Hid (∀ q, w.heap.size ≤ q → ¬ S q) := fun q hq h' => by have := h.sl q h'; omega
  clear h hR hu
  go_enter Try.func23, Try.ntmps23
  go_wp2_with fail
  have B0 : Hid (Below w.heap.size w (((w.alloc (.cells #[.pointer (some ⟨d, 0, none⟩)] 23)).alloc (.cells #[.string s] 9)).alloc (.cells #[.slice pu b2.length cu] 27))) := bal (bal (bal (Below.refl w.heap.size w) _) _) _
  refine (find_ok ((unhide HD).below (unhide B0)) s hs).mono ?_
  rintro e w3 ⟨⟨p, m, c, y, er, rfl, hfo⟩, hb3⟩
  have HFO := hide hfo
  have hz3 := hb3.size
  simp only [World.size_alloc] at hz3
  have k0 : w3.cell? ⟨w.heap.size, 0, none⟩ = some (.pointer (some ⟨d, 0, none⟩)) := (hb3.cell (p := ⟨w.heap.size, 0, none⟩) (by simp; omega)).trans (by rw [World.cell?_alloc_lt _ _ ⟨w.heap.size, 0, none⟩ (by simp; omega)]; simp)
  have k1 : w3.cell? ⟨w.heap.size + 1, 0, none⟩ = some (.string s) := (hb3.cell (p := ⟨w.heap.size + 1, 0, none⟩) (by simp)).trans (by rw [World.cell?_alloc_lt _ _ ⟨w.heap.size + 1, 0, none⟩ (by show w.heap.size + 1 < _; rw [World.size_alloc, World.size_alloc]; omega)]; simp)
  have k4 : w3.cell? ⟨w.heap.size + 1 + 1, 0, none⟩ = some (.slice pu b2.length cu) := (hb3.cell (p := ⟨w.heap.size + 1 + 1, 0, none⟩) (by simp)).trans (cell_top3 w _ _ _)
  have B3 : Hid (Below w.heap.size w w3) := (unhide B0).trans (hb3.mono (by simp; omega))
  have HB3 := hide hb3
  clear hfo hb3
  have ka0 : Hid (∀ o, (w3.alloc o).cell? ⟨w.heap.size, 0, none⟩ = some (.pointer (some ⟨d, 0, none⟩))) := fun o => keep1 (bal (Below.refl w3.heap.size w3) o) (by omega) k0
  have ka1 : Hid (∀ o, (w3.alloc o).cell? ⟨w.heap.size + 1, 0, none⟩ = some (.string s)) := fun o => keep1 (bal (Below.refl w3.heap.size w3) o) (by omega) k1
  have ka4 : Hid (∀ o, (w3.alloc o).cell? ⟨w.heap.size + 1 + 1, 0, none⟩ = some (.slice pu b2.length cu)) := fun o => keep1 (bal (Below.refl w3.heap.size w3) o) (by omega) k4
  go_wp2_with fail
  obtain ⟨w4, hw4⟩ : ∃ w4, w4 = w3.alloc (.cells #[.slice p m c, .int .i64 y] 67) := ⟨_, rfl⟩
  have B34 : Hid (Below w3.heap.size w3 w4) := by rw [hw4]; exact bal (Below.refl _ _) _
  have B4 : Hid (Below w.heap.size w w4) := step_below (unhide B3) (Nat.le_refl _) (unhide B34)
  have q0 : w4.cell? ⟨w.heap.size, 0, none⟩ = some (.pointer (some ⟨d, 0, none⟩)) := by rw [hw4]; exact unhide ka0 _
  have q1 : Hid (w4.cell? ⟨w.heap.size + 1, 0, none⟩ = some (.string s)) := by rw [hw4]; exact unhide ka1 _
  have q2 : Hid (w4.cell? ⟨w3.heap.size, 0, none⟩ = some (.slice p m c)) := by rw [hw4]; show _ = _; simp
  have q3 : Hid (w4.cell? ⟨w3.heap.size, 1, none⟩ = some (.int .i64 y)) := by rw [hw4]; show _ = _; simp
  have q4 : w4.cell? ⟨w.heap.size + 1 + 1, 0, none⟩ = some (.slice pu b2.length cu) := by rw [hw4]; exact unhide ka4 _
  have hz4 : w4.heap.size = w3.heap.size + 1 := by rw [hw4]; simp
  rw [← hw4]
  clear hw4 ka0 ka1 ka4 k0 k1 k4
  have p0 : ∀ P : Bel w4, P.W.cell? ⟨w.heap.size, 0, none⟩ = some (.pointer (some ⟨d, 0, none⟩)) := fun P => keep1 P.h (by omega) q0
  have p4 : ∀ P : Bel w4, P.W.cell? ⟨w.heap.size + 1 + 1, 0, none⟩ = some (.slice pu b2.length cu) := fun P => keep1 P.h (by omega) q4
  have HF : Hid (∀ P : Bel w4, Calls Try.prog 28 #[.pointer (some ⟨d, 0, none⟩)] P.W fun e w'' => e = .returned (.int .i64 (K.cap - (totF K.A : Int))) ∧ ∃ q : Bel w4, w'' = q.W) := fun P =>
    (free_ok ((unhide HD).below ((unhide B4).trans (P.h.mono (by omega)))) hc hc0 ht).mono (fun e w' ⟨h1, h2⟩ => ⟨h1, ⟨w', P.h.trans (h2.mono P.h.size)⟩, rfl⟩)
  have HX : Hid (∀ (P : Bel w4) (e0 : Int), e0 = erA s b2 K → Calls Try.prog 40 #[.pointer (some ⟨d, 0, none⟩), .int .i64 e0, .func (.func 44) #[] #[.pointer (some ⟨w.heap.size, 0, none⟩), .pointer (some ⟨w.heap.size + 1, 0, none⟩), .pointer (some ⟨w3.heap.size, 0, none⟩), .pointer (some ⟨w.heap.size + 1 + 1, 0, none⟩)]] P.W fun e w' => e = .returned (.int .i64 R.2) ∧ ∃ S', DiskOK w' d (N + 1) R.1 S' ∧ Sep w w' S S') := by
    rintro ⟨w5, hb5⟩ e0 rfl
    have B5 : Below w.heap.size w w5 := (unhide B4).trans (hb5.mono (by omega))
    refine (change_ok ((unhide HD).below B5) hf1 (erA s b2 K) (appA s b2 K) 44 _ (enters_of Try.func44 (by kernel_rfl) rfl) ?hdo).mono ?fin
    case hdo =>
      rintro hdn he0 hf0 w1 z hor hD1
      have he1 : erF s K = 0 ∧ (b2.length : Int) ≤ K.cap - (totF K.A : Int) := by
        unfold erA at he0
        split at he0
        · omega
        · rename_i hno
          exact ⟨he0, by omega⟩
      obtain ⟨x, hh⟩ := (unhide HFO).2.2 ((unhide HFO).1.trans he1.1)
      have hown := hh.own ((unhide HD).below (unhide B0))
      have hrow5 := own_below (own_below (own_below hh.row (unhide HB3)) (unhide B34)) hb5
      have hA : appA s b2 K = putF s.data.toList ⟨x.bs ++ b2, x.sy⟩ K.A := by unfold appA; rw [hh.get]
      have hml := hh.len
      have hsy := hh.syn
      have hget := hh.get
      have hmem := hh.mem
      clear hh
      subst hml hsy
      rw [hA]
      have hxl := get_le_tot hget
      have hu1 : BytesAt w1 (.slice pu b2.length cu) b2 := by
        refine ((unhide HU).below B5).far (fun q hq => ?_)
        rcases hor with rfl | rfl
        · rfl
        · exact Below.heap_setCell _ ⟨d, 2, none⟩ _ q (hus q hq)
      exact append_do s hs p c w.heap.size (w.heap.size + 1) w3.heap.size (w.heap.size + 1 + 1) hD1 hN x ⟨hget, rfl, rfl, hmem, rows_or hor hrow5 (fun q hq => (hown q hq).2.1)⟩ _ b2 hu1 (by omega) ((cells_or hor _ (by show w.heap.size ≠ d; omega)).trans (keep1 hb5 (by omega) q0)) ((cells_or hor _ (by show w.heap.size + 1 ≠ d; omega)).trans (keep1 hb5 (by omega) (unhide q1))) ((cells_or hor _ (by show w3.heap.size ≠ d; omega)).trans (keep1 hb5 (by omega) (unhide q2))) ((cells_or hor _ (by show w3.heap.size ≠ d; omega)).trans (keep1 hb5 (by omega) (unhide q3))) ((cells_or hor _ (by show w.heap.size + 1 + 1 ≠ d; omega)).trans (keep1 hb5 (by omega) q4)) (unhide hnS _ (by omega)) (unhide hnS _ (by omega)) (unhide hnS _ (by omega)) (unhide hnS _ (by omega))
    case fin =>
      rintro e w6 ⟨rfl, S', hok, hsep⟩
      rw [← unhide HR] at hok ⊢
      exact ⟨rfl, S', hok, (Sep.of_below S B5).trans hsep⟩
  have HER := hide (unhide HFO).1
  clear hus
  by_cases h0 : er = 0
  · subst h0
    obtain ⟨X, hX⟩ : ∃ X : Int, X = K.cap - (totF K.A : Int) := ⟨_, rfl⟩
    rw [← hX] at HF
    have HXX := hide hX
    clear hX
    by_cases hfull : X < (b2.length : Int)
    · have hd1 : decide (X < (b2.length : Int)) = true := decide_eq_true hfull
      refine wp_region_quiet_below (by kernel_rfl) (by kernel_rfl) ?_
      repeat (quiet_step (first | (go_at_call 28; refine unhide HF _)))
      refine wpQuiet_nil ?_
      rintro _ ⟨P, rfl⟩
      go_wp2_with (first | (go_at_call 40; refine (unhide HX P _ (by unfold erA; rw [if_pos ⟨(unhide HER).symm, by rw [← unhide HXX]; exact hfull⟩])).mono ?_; rintro e w5 ⟨rfl, hres⟩; have HRES := hide hres; clear hres))
      go_ret
      exact ⟨rfl, unhide HRES⟩
    · have hd1 : decide (X < (b2.length : Int)) = false := decide_eq_false hfull
      refine wp_region_quiet_below (by kernel_rfl) (by kernel_rfl) ?_
      repeat (quiet_step (first | (go_at_call 28; refine unhide HF _)))
      refine wpQuiet_nil ?_
      rintro _ ⟨P, rfl⟩
      go_wp2_with (first | (go_at_call 40; refine (unhide HX P _ (by unfold erA; rw [if_neg (fun h' => hfull (by rw [unhide HXX]; exact h'.2)), ← unhide HER])).mono ?_; rintro e w5 ⟨rfl, hres⟩; have HRES := hide hres; clear hres))
      go_ret
      exact ⟨rfl, unhide HRES⟩
  · have hne : decide (er = 0) = false := decide_eq_false h0
    have hbe : (er == 0) = false := by simpa using h0
    refine wp_region_quiet_below (by kernel_rfl) (by kernel_rfl) ?_
    repeat (quiet_step (first | (go_at_call 28; refine unhide HF _)))
    refine wpQuiet_nil ?_
    rintro _ ⟨P, rfl⟩
    go_wp2_with (first | (go_at_call 40; refine (unhide HX P _ (by unfold erA; rw [if_neg (fun h' => h0 ((unhide HER).trans h'.1)), ← unhide HER])).mono ?_; rintro e w5 ⟨rfl, hres⟩; have HRES := hide hres; clear hres))
    go_ret
    exact ⟨rfl, unhide HRES⟩
end Go.Proofs.Ytpeohbkigkfcgaa
