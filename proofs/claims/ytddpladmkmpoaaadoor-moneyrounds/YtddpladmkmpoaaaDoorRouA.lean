import Derived.Test.YtddpladmkmpoaaaDoorFirD
import Derived.Deep.MidRow
namespace Go.Proofs.YtddpladmkmpoaaaDoor
open Go.ChangeShapes Go.WideShapes Go.ChangeAt Go.RowKit
set_option linter.unusedVariables false
/-- six numbers as a value -/
abbrev a6 (x : Nat → Int) : Value := .agg #[.int .i64 (x 0), .int .i64 (x 1), .int .i64 (x 2), .int .i64 (x 3), .int .i64 (x 4), .int .i64 (x 5)]
def put6 (w : World) (b : Nat) (x : Nat → Int) : World := w.setCells b 0 [.int .i64 (x 0), .int .i64 (x 1), .int .i64 (x 2), .int .i64 (x 3), .int .i64 (x 4), .int .i64 (x 5)]
theorem size29 : (Tryd.prog.info? 29).map (·.size) = some 6 := by kernel_rfl
def st29 (x y : Value) : Sem Unit := Instr.storeAt 29 x y
theorem st29_is (x y : Value) : Instr.storeAt 29 x y = st29 x y := rfl
theorem run_st29 (w : World) (b : Nat) (x : Nat → Int) (ht : w.there b 0 6) : (st29 (.pointer (some ⟨b, 0, none⟩)) (.agg #[.int .i64 (x 0), .int .i64 (x 1), .int .i64 (x 2), .int .i64 (x 3), .int .i64 (x 4), .int .i64 (x 5)])).run Tryd.prog w = .ok () (put6 w b x) :=
  run_storeAt_mid (P := Tryd.prog) w b 0 29 #[.int .i64 (x 0), .int .i64 (x 1), .int .i64 (x 2), .int .i64 (x 3), .int .i64 (x 4), .int .i64 (x 5)] ht size29 (by simp [Value.oneCell'])
/-- a block holds six numbers, and may be written -/
structure Arr (w : World) (b : Nat) (x : Nat → Int) : Prop where
  at' : ∀ i, i < 6 → w.cell? ⟨b, i, none⟩ = some (.int .i64 (x i))
  fz : ∀ i, i < 6 → w.frozen? ⟨b, i, none⟩ = false
theorem Arr.lt {w : World} {b : Nat} {x : Nat → Int} (h : Arr w b x) : b < w.heap.size := clt (h.at' 0 (by omega))
theorem Arr.there {w : World} {b : Nat} {x : Nat → Int} (h : Arr w b x) : w.there b 0 6 := by
  intro j hj
  rw [Nat.zero_add, h.at' j hj, h.fz j hj]
  exact ⟨rfl, rfl⟩
theorem Arr.below {W w1 : World} {b : Nat} {x : Nat → Int} (h : Arr W b x) (hb : Below W.heap.size W w1) : Arr w1 b x :=
  ⟨fun i hi => (hb.cell (clt (h.at' i hi))).trans (h.at' i hi), fun i hi => (hb.frozen (p := ⟨b, i, none⟩) h.lt).trans (h.fz i hi)⟩
theorem Arr.set {w : World} {b : Nat} {x : Nat → Int} (h : Arr w b x) (k : Nat) (hk : k < 6) (v : Int) : Arr (w.setCell ⟨b, k, none⟩ (.int .i64 v)) b (upd x k v) := by
  refine ⟨fun i hi => ?_, fun i hi => ?_⟩
  · unfold upd
    by_cases e : i = k
    · subst e
      rw [if_pos rfl]
      exact World.cell?_setCell_same' w _ _ (by rw [h.at' i hi]; rfl)
    · rw [if_neg e, World.cell?_setCell_other w _ _ _ (by intro h; injection h with _ h2; exact e h2.symm)]
      exact h.at' i hi
  · simp [h.fz i hi]
theorem Arr.other {w : World} {b c : Nat} {x : Nat → Int} (h : Arr w b x) (hc : c ≠ b) (k : Nat) (v : Value) : Arr (w.setCell ⟨c, k, none⟩ v) b x := by
  refine ⟨fun i hi => ?_, fun i hi => ?_⟩
  · rw [World.cell?_setCell_other w _ _ _ (by intro h; injection h with h1 _; exact hc h1)]
    exact h.at' i hi
  · simp [h.fz i hi]
theorem Arr.zero (w : World) : Arr (w.alloc (.cells #[.int .i64 0, .int .i64 0, .int .i64 0, .int .i64 0, .int .i64 0, .int .i64 0] 29)) w.heap.size (fun _ => 0) := by
  refine ⟨fun i hi => ?_, fun i hi => by simp⟩
  have hi' : i = 0 ∨ i = 1 ∨ i = 2 ∨ i = 3 ∨ i = 4 ∨ i = 5 := by omega
  rcases hi' with rfl | rfl | rfl | rfl | rfl | rfl <;> simp
theorem below_put6 {B b : Nat} {a w : World} (h : Below B a w) (hb : B ≤ b) (x : Nat → Int) : Below B a (put6 w b x) := by
  unfold put6
  simp only [World.setCells]
  exact (((((h.setCell hb _).setCell hb _).setCell hb _).setCell hb _).setCell hb _).setCell hb _
theorem Arr.put {w : World} {b : Nat} {x : Nat → Int} (h : Arr w b x) (y : Nat → Int) : (put6 w b y).cell? ⟨b, 0, none⟩ = some (.int .i64 (y 0)) ∧ (put6 w b y).cell? ⟨b, 1, none⟩ = some (.int .i64 (y 1)) ∧ (put6 w b y).cell? ⟨b, 2, none⟩ = some (.int .i64 (y 2)) ∧ (put6 w b y).cell? ⟨b, 3, none⟩ = some (.int .i64 (y 3)) ∧ (put6 w b y).cell? ⟨b, 4, none⟩ = some (.int .i64 (y 4)) ∧ (put6 w b y).cell? ⟨b, 5, none⟩ = some (.int .i64 (y 5)) := by
  have hr := World.rangeAt_setCells_same w b 0 [.int .i64 (y 0), .int .i64 (y 1), .int .i64 (y 2), .int .i64 (y 3), .int .i64 (y 4), .int .i64 (y 5)] h.there
  exact ⟨hr 0 _ rfl, hr 1 _ rfl, hr 2 _ rfl, hr 3 _ rfl, hr 4 _ rfl, hr 5 _ rfl⟩
attribute [local go_sem ↓] st29_is
attribute [local go_sem] run_st29
/-- what holds at a round's head -/
structure RouAt (a n d : Int) (w wr : World) (x : Nat → Int) (k : Nat) : Prop where
  v : Arr wr (w.heap.size + 1) x
  r : Arr wr w.heap.size (fun _ => 0)
  ok : ∀ i : Nat, i < k → x i = (ratioSpec a n d i).1 ∧ (ratioSpec a n d i).2 = 0
  bel : Below w.heap.size w wr
theorem RouAt.start (a n d : Int) (w : World) : RouAt a n d w ((w.alloc (.cells #[.int .i64 0, .int .i64 0, .int .i64 0, .int .i64 0, .int .i64 0, .int .i64 0] 29)).alloc (.cells #[.int .i64 0, .int .i64 0, .int .i64 0, .int .i64 0, .int .i64 0, .int .i64 0] 29)) (fun _ => 0) 0 := by
  have h := Arr.zero (w.alloc (.cells #[.int .i64 0, .int .i64 0, .int .i64 0, .int .i64 0, .int .i64 0, .int .i64 0] 29))
  rw [World.size_alloc] at h
  exact ⟨h, (Arr.zero w).below (bal (Below.refl _ _) _), fun i hi => by omega, bal (bal (Below.refl _ _) _) _⟩
set_option maxRecDepth 100000 in
set_option maxHeartbeats 4000000 in
theorem round_any (a n d : Int) (w : World) (ha : -9223372036854775808 ≤ a) (hn : -9223372036854775808 ≤ n) (ha' : a ≤ 9223372036854775807) (hn' : n ≤ 9223372036854775807) (hd' : d ≤ 9223372036854775807) :
    Calls Tryd.prog 9 #[.int .i64 a, .int .i64 n, .int .i64 d] w fun e w' => ∃ (x : Nat → Int) (t : Bool), e = .returned (.tuple #[.agg #[.int .i64 (x 0), .int .i64 (x 1), .int .i64 (x 2), .int .i64 (x 3), .int .i64 (x 4), .int .i64 (x 5)], .bool t]) ∧ (t = true → ∀ i : Nat, i < 6 → x i = (ratioSpec a n d i).1 ∧ (ratioSpec a n d i).2 = 0) ∧ (t = false → ∃ i : Nat, i < 6 ∧ (ratioSpec a n d i).2 ≠ 0) ∧ Below w.heap.size w w' := by
  have RA := hide (fun (k : Nat) (hk : k < 6) W => mratio_any a n d k W ha hn ha' hn' hd' ⟨by omega, by omega⟩)
  clear ha hn ha' hn' hd'
  go_enter Tryd.func9, Tryd.ntmps9
  go_wp2
  go_loopw [9] (fun i wr => ∃ (k : Nat) (x : Nat → Int), k ≤ 6 ∧ i = .int .i64 k ∧ RouAt a n d w wr x k) (fun i _ => 6 - (intOf i).toNat)
  case atStart => exact ⟨0, _, by omega, rfl, RouAt.start a n d w⟩
  case round =>
    rename_i wr
    obtain ⟨k, x, hk, rfl, hr⟩ := hrel
    have HR := hide hr
    clear hr
    by_cases hlt : k < 6
    · have hI : (k : Int) < 6 := by omega
      obtain ⟨p, hp⟩ : ∃ p, (ratioSpec a n d k).1 = p := ⟨_, rfl⟩
      obtain ⟨q, hq⟩ : ∃ q, (ratioSpec a n d k).2 = q := ⟨_, rfl⟩
      have A := hide ((unhide RA) k hlt wr)
      rw [hp, hq] at A
      have HP := hide hp
      have HQ := hide hq
      clear hp hq RA
      go_wp2_with fail
      refine (unhide A).mono ?_
      rintro e w1 ⟨rfl, c1⟩
      have V1 := hide ((unhide HR).v.below c1)
      have R1 := hide ((unhide HR).r.below c1)
      have B1 := hide ((unhide HR).bel.trans (c1.mono (unhide HR).bel.size))
      clear c1
      by_cases h0 : q = 0
      · have u1 := (unhide V1).at' k hlt
        have u2 := (unhide V1).fz k hlt
        subst h0
        go_wp2
        refine ⟨⟨k + 1, upd x k p, by omega, by go_num, ⟨(unhide V1).set k hlt p, (unhide R1).other (by omega) k _, fun i hi => ?_, (unhide B1).setCell (by show w.heap.size ≤ w.heap.size + 1; omega) _⟩⟩, ?_⟩
        · unfold upd
          by_cases e : i = k
          · subst e
            rw [if_pos rfl]
            exact ⟨(unhide HP).symm, unhide HQ⟩
          · rw [if_neg e]
            exact (unhide HR).ok i (by omega)
        · simp [intOf]
          omega
      · have hqb : (q != 0) = true := by rw [bne_iff_ne]; exact h0
        have th := (unhide R1).there
        have u0 := (unhide V1).at' 0 (by omega)
        have u1 := (unhide V1).at' 1 (by omega)
        have u2 := (unhide V1).at' 2 (by omega)
        have u3 := (unhide V1).at' 3 (by omega)
        have u4 := (unhide V1).at' 4 (by omega)
        have u5 := (unhide V1).at' 5 (by omega)
        go_wp2
        obtain ⟨p0, p1, p2, p3, p4, p5⟩ := (unhide R1).put x
        exact bodyPost_ret (v := .tuple #[.agg #[.int .i64 (x 0), .int .i64 (x 1), .int .i64 (x 2), .int .i64 (x 3), .int .i64 (x 4), .int .i64 (x 5)], .bool false]) (by simp [results, Tryd.results9, go_sem, p0, p1, p2, p3, p4, p5]) rfl ⟨x, false, rfl, fun h => (by cases h), fun _ => ⟨k, hlt, by rw [unhide HQ]; exact h0⟩, below_put6 (unhide B1) (Nat.le_refl _) x⟩
    · have hk6 : k = 6 := by omega
      subst hk6
      have th := (unhide HR).r.there
      have u0 := (unhide HR).v.at' 0 (by omega)
      have u1 := (unhide HR).v.at' 1 (by omega)
      have u2 := (unhide HR).v.at' 2 (by omega)
      have u3 := (unhide HR).v.at' 3 (by omega)
      have u4 := (unhide HR).v.at' 4 (by omega)
      have u5 := (unhide HR).v.at' 5 (by omega)
      go_wp2
      obtain ⟨p0, p1, p2, p3, p4, p5⟩ := (unhide HR).r.put x
      exact bodyPost_ret (v := .tuple #[.agg #[.int .i64 (x 0), .int .i64 (x 1), .int .i64 (x 2), .int .i64 (x 3), .int .i64 (x 4), .int .i64 (x 5)], .bool true]) (by simp [results, Tryd.results9, go_sem, p0, p1, p2, p3, p4, p5]) rfl ⟨x, true, rfl, fun _ => (unhide HR).ok, fun h => (by cases h), below_put6 (unhide HR).bel (Nat.le_refl _) x⟩
end Go.Proofs.YtddpladmkmpoaaaDoor
