import Derived.Test.YtmgnlgobkkfjhaaGreatDoorW09
import Derived.Test.YtmgnlgobkkfjhaaGreatDoorW12
import Derived.Test.YtmgnlgobkkfjhaaGreatDoorW14
import Derived.Shelf.SlSortCmp.WholeK
import Derived.Ground.SlsfProg
import Derived.Test.YtmgnlgobkkfjhaaGreatDoorProg
/- The document's daily: Between (28). -/
namespace Go.Proofs.YtmgnlgobkkfjhaaGreatDoor.Kg
open Go Go.RowKit Go.Shelf Go.ChangeShapes Go.WideShapes Go.ChangeAt Go.Maps
set_option linter.unusedVariables false
set_option linter.unusedSimpArgs false
set_option maxRecDepth 100000
set_option maxHeartbeats 8000000
attribute [local go_sem ↓] ldKQ_is stKQ_is
/-- which row the inner loop has found -/
def Nx (R : List Ro) (s : ByteArray) (f tt : Int) (i : Nat) (nx : Int) : Prop :=
  (nx = -1 ∧ ∀ (j : Nat) (r : Ro), R[j]? = some r → j < i → inS s f tt r = false) ∨
  (∃ (j0 : Nat) (r0 : Ro), R[j0]? = some r0 ∧ j0 < i ∧ nx = (j0 : Int) ∧ inS s f tt r0 = true ∧ ∀ (j : Nat) (r : Ro), R[j]? = some r → j < i → inS s f tt r = true → r0.day ≤ r.day)
theorem Nx.start (R : List Ro) (s : ByteArray) (f tt : Int) : Nx R s f tt 0 (-1) := .inl ⟨rfl, fun j _ _ h => by omega⟩
theorem Nx.stay {R : List Ro} {s : ByteArray} {f tt : Int} {i : Nat} {nx : Int} {x : Ro} (h : Nx R s f tt i nx) (hi : R[i]? = some x) (hn : inS s f tt x = false) : Nx R s f tt (i + 1) nx := by
  rcases h with ⟨h1, h2⟩ | ⟨j0, r0, h0, h1, h2, h3, h4⟩
  · refine .inl ⟨h1, fun j r hj hji => ?_⟩
    by_cases e : j = i
    · subst e; rw [hi] at hj; cases hj; exact hn
    · exact h2 j r hj (by omega)
  · refine .inr ⟨j0, r0, h0, by omega, h2, h3, fun j r hj hji hin => ?_⟩
    by_cases e : j = i
    · subst e; rw [hi] at hj; cases hj; rw [hn] at hin; cases hin
    · exact h4 j r hj (by omega) hin
theorem Nx.take {R : List Ro} {s : ByteArray} {f tt : Int} {i : Nat} {nx : Int} {x : Ro} (h : Nx R s f tt i nx) (hi : R[i]? = some x) (hn : inS s f tt x = true) (hl : nx = -1 ∨ ∃ (j0 : Nat) (r0 : Ro), R[j0]? = some r0 ∧ nx = (j0 : Int) ∧ x.day < r0.day) : Nx R s f tt (i + 1) (i : Int) := by
  refine .inr ⟨i, x, hi, by omega, rfl, hn, fun j r hj hji hin => ?_⟩
  by_cases e : j = i
  · subst e; rw [hi] at hj; cases hj; exact Int.le_refl _
  · rcases h with ⟨h1, h2⟩ | ⟨j0, r0, h0, h1, h2, h3, h4⟩
    · rw [h2 j r hj (by omega)] at hin; cases hin
    · rcases hl with hl | ⟨j1, r1, h1', hl, hd⟩
      · omega
      · have e2 : j1 = j0 := by omega
        subst e2
        rw [h0] at h1'; cases h1'
        have := h4 j r hj (by omega) hin
        omega
theorem Nx.keep {R : List Ro} {s : ByteArray} {f tt : Int} {i : Nat} {nx : Int} {x : Ro} (h : Nx R s f tt i nx) (hi : R[i]? = some x) {j0 : Nat} {r0 : Ro} (h0 : R[j0]? = some r0) (e0 : nx = (j0 : Int)) (hd : r0.day ≤ x.day) : Nx R s f tt (i + 1) nx := by
  rcases h with ⟨h1, h2⟩ | ⟨j1, r1, h0', h1, h2, h3, h4⟩
  · omega
  · have e2 : j1 = j0 := by omega
    subst e2
    rw [h0] at h0'; cases h0'
    refine .inr ⟨j1, r0, h0, by omega, h2, h3, fun j r hj hji hin => ?_⟩
    by_cases e : j = i
    · subst e; rw [hi] at hj; cases hj; exact hd
    · exact h4 j r hj (by omega) hin
theorem inS_iff {s : ByteArray} {a b : Int} {r : Ro} : inS s a b r = true ↔ r.acc = s ∧ a ≤ r.day ∧ r.day ≤ b := by
  unfold inS
  simp only [Bool.and_eq_true, decide_eq_true_eq]
/-- how many rows are left for Between -/
def lft (R : List Ro) (s : ByteArray) (f tt : Int) : Nat := (R.filter (inS s f tt)).length
theorem lft_less {R : List Ro} {s : ByteArray} {f tt day : Int} {r : Ro} (hr : r ∈ R) (h : inS s f tt r = true) (e : r.day = day) : lft R s (day + 1) tt < lft R s f tt := by
  unfold lft
  have hsub : ∀ l : List Ro, (l.filter (inS s (day + 1) tt)).length ≤ (l.filter (inS s f tt)).length := fun l => by
    induction l with
    | nil => simp
    | cons x l ih =>
      rw [List.filter_cons, List.filter_cons]
      by_cases hx : inS s (day + 1) tt x = true
      · have : inS s f tt x = true := by
          rw [inS_iff] at hx h ⊢
          exact ⟨hx.1, by omega, hx.2.2⟩
        rw [if_pos hx, if_pos this]
        simp only [List.length_cons]; omega
      · rw [if_neg hx]
        split
        · simp only [List.length_cons]; omega
        · exact ih
  have key : ∀ l : List Ro, r ∈ l → (l.filter (inS s (day + 1) tt)).length < (l.filter (inS s f tt)).length := fun l => by
    induction l with
    | nil => intro h; cases h
    | cons x l ih =>
      intro hm
      rw [List.filter_cons, List.filter_cons]
      rcases List.mem_cons.1 hm with rfl | hm
      · have hn : ¬ inS s (day + 1) tt r = true := fun h' => by rw [inS_iff] at h'; omega
        rw [if_neg hn, if_pos h]
        have := hsub l
        simp only [List.length_cons]; omega
      · have := ih hm
        by_cases hx : inS s (day + 1) tt x = true
        · have hx' : inS s f tt x = true := by
            rw [inS_iff] at hx h ⊢
            exact ⟨hx.1, by omega, hx.2.2⟩
          rw [if_pos hx, if_pos hx']
          simp only [List.length_cons]; omega
        · rw [if_neg hx]
          split
          · simp only [List.length_cons]; omega
          · exact this
  exact key R hr
/-- a list of days that a call hands out -/
def QlO (W : World) (L : List Dq) (e : Ending) (w' : World) : Prop := ∃ p c, e = .returned (.slice p L.length c) ∧ Ml kQ W w' (.slice p L.length c) L
/-- where Between stands at the outer loop's head -/
structure BtAt (W wr : World) (R : List Ro) (s : ByteArray) (S : List Mk) (f0 f tt : Int) (v : Value) (m : Nat) : Prop where
  ml : Ml kQ W wr v ((bt3 S f0 f tt).map (mq s))
  ln : (bt3 S f0 f tt).length = m
  le : f0 ≤ f
theorem box_st {w : World} {X : Dq} : ∃ w1, (stKQ (.pointer (some ⟨w.heap.size, 0, none⟩)) (cvQ X)).run Tryz.prog (w.alloc (.cells #[.string ⟨#[]⟩, .int .i64 0, .int .i64 0, .int .i64 0] 38)) = .ok () w1 ∧ Below w.heap.size w w1 ∧ w1.heap[w.heap.size]? = some (.cells #[.string X.acc, .int .i64 X.day, .int .i64 X.chg, .int .i64 X.bal] 38 (0, 0)) := by
  have h0 := heap_new w (.cells #[.string ⟨#[]⟩, .int .i64 0, .int .i64 0, .int .i64 0] 38)
  refine ⟨_, run_stKQ (fun j hj => ?_) X, ?_, ?_⟩
  · refine ⟨?_, froz_at h0⟩
    rw [cell_at h0, Nat.zero_add]
    match j, hj with
    | 0, _ => rfl
    | 1, _ => rfl
    | 2, _ => rfl
    | 3, _ => rfl
  · unfold Dq.vals World.setCells World.setCells World.setCells World.setCells World.setCells
    exact ((((bal (Below.refl _ _) _).setCell (Nat.le_refl _) _).setCell (Nat.le_refl _) _).setCell (Nat.le_refl _) _).setCell (Nat.le_refl _) _
  · unfold Dq.vals World.setCells World.setCells World.setCells World.setCells World.setCells
    rw [set_heap (set_heap (set_heap (set_heap h0)))]
    rfl
theorem bt3_len (S : List Mk) (f0 f tt : Int) : (bt3 S f0 f tt).length ≤ S.length := List.length_filter_le _ _
theorem rbtw_any {W : World} {d : Nat} {Sb : Nat → Prop} {R : List Ro} (hR : Rd W d Sb R) (s : ByteArray) {S : List Mk} (hS : Ser (tol R s.data.toList) S) (hf : fitT (tol R s.data.toList)) (hl : S.length < 1099511627000) (f0 tt : Int) :
    Calls Tryz.prog 28 #[.pointer (some ⟨d, 0, none⟩), .string s, .int .i64 f0, .int .i64 tt] W fun e w' => QlO W ((btw S f0 tt).map (mq s)) e w' := by
  obtain ⟨pn, cn, c0, hl0, _⟩ := hR.list
  have hdl : d < W.heap.size := hR.lt d hR.sd
  have hfew := hR.few
  obtain ⟨n, hn⟩ : ∃ n, n = R.length := ⟨_, rfl⟩
  rw [← hn] at c0 hfew
  have HC : Hid (∀ w', Below W.heap.size W w' → w'.cell? ⟨d, 0, none⟩ = some (.slice pn n cn)) := fun w' hb => keep1 hb hdl c0
  have HL := hide hl0; have HN := hide hn; have HR := hide hR; have HS := hide hS; have HF := hide hf; have HLS := hide hl
  clear hR hl0 hn c0 hS hf hl hdl
  go_enter Tryz.func28, Tryz.ntmps28
  go_upto_region 2 with fail
  go_loopw [2, 9] (fun v2 v9 wr => ∃ (f : Int) (m : Nat) (p9 : Option Addr) (c9 : Nat), v2 = .int .i64 f ∧ v9 = .slice p9 m c9 ∧ Hid (BtAt W wr R s S f0 f tt v9 m)) (fun v2 _ _ => lft R s (intOf v2) tt)
  case atStart => exact ⟨f0, 0, none, 0, rfl, rfl, by rw [bt3_start]; exact Ml.nil _ (Below.refl _ _), by rw [bt3_start]; rfl, Int.le_refl _⟩
  case round =>
    obtain ⟨f, m, p9, c9, rfl, rfl, hA⟩ := hrel
    obtain ⟨wo, hwo⟩ : ∃ wo, wo = wr := ⟨_, rfl⟩
    rw [← hwo] at hA ⊢
    clear hwo wr
    go_upto_region 4 with fail
    go_loopw [10, 11] (fun v10 v11 wr => ∃ (i : Nat) (nx : Int), v11 = .int .i64 i ∧ v10 = .int .i64 nx ∧ i ≤ n ∧ Hid (Nx R s f tt i nx ∧ Below wo.heap.size wo wr)) (fun _ v11 _ => n - (intOf v11).toNat)
    case atStart => exact ⟨0, -1, rfl, rfl, by omega, Nx.start R s f tt, Below.refl _ _⟩
    case round =>
      obtain ⟨i, nx, rfl, rfl, hi, hrel⟩ := hrel
      obtain ⟨hnx, hbel⟩ := unhide hrel
      have hbW : Below W.heap.size W wr := (unhide hA).ml.bel.trans (hbel.mono (unhide hA).ml.bel.size)
      have q0 := unhide HC wr hbW
      by_cases hlt : i < n
      · have hiN : i < R.length := by rw [← unhide HN]; exact hlt
        obtain ⟨b, off, e, hbl, r0, r1, r2, r3⟩ := Rd.row (unhide HL) hiN
        obtain ⟨x, hx⟩ : ∃ x, x = R[i] := ⟨_, rfl⟩
        rw [← hx] at r0 r1 r2
        have hld : (ldKQ (.pointer (some ⟨b, off + i * 4, none⟩))).run Tryz.prog wr = .ok (cvQ (rq x)) wr := run_ldKQ (x := rq x) (fun j u hu => by
          match j, hu with
          | 0, hu => simp [rq, Dq.vals] at hu; rw [← hu]; exact keep1 hbW hbl r0
          | 1, hu => simp [rq, Dq.vals] at hu; rw [← hu]; exact keep1 hbW hbl r1
          | 2, hu => simp [rq, Dq.vals] at hu; rw [← hu]; exact keep1 hbW hbl r2
          | 3, hu => simp [rq, Dq.vals] at hu; rw [← hu]; exact keep1 hbW hbl r3)
        obtain ⟨w1, hst, hb1, hbx⟩ := box_st (w := wr) (X := rq x)
        subst e
        have hI : (i : Int) < (n : Int) := by omega
        have hI0 : (0 : Int) ≤ (i : Int) := by omega
        have hbW1 : Below W.heap.size W w1 := hbW.trans (hb1.mono hbW.size)
        have hbr1 : Below wo.heap.size wo w1 := hbel.trans (hb1.mono hbel.size)
        obtain ⟨xs, hxs⟩ : ∃ y, y = x.acc := ⟨_, rfl⟩
        obtain ⟨xd, hxd⟩ : ∃ y, y = x.day := ⟨_, rfl⟩
        have b0 : ∀ P : Bel w1, P.W.cell? ⟨wr.heap.size, 0, none⟩ = some (.string xs) := fun P => by
          rw [World.cell?_of_block (P.h.block _ (Array.getElem?_eq_some_iff.1 hbx).1), cell_at hbx, hxs]; rfl
        have b1 : ∀ P : Bel w1, P.W.cell? ⟨wr.heap.size, 1, none⟩ = some (.int .i64 xd) := fun P => by
          rw [World.cell?_of_block (P.h.block _ (Array.getElem?_eq_some_iff.1 hbx).1), cell_at hbx, hxd]; rfl
        have q1 : ∀ P : Bel w1, P.W.cell? ⟨d, 0, none⟩ = some (.slice (some ⟨b, off, none⟩) n cn) := fun P => unhide HC P.W (hbW1.trans (P.h.mono hbW1.size))
        have HIN : Hid (inS s f tt x = (decide (xs = s) && (decide (f ≤ xd) && decide (xd ≤ tt)))) := by unfold inS; rw [hxs, hxd]; exact rfl
        have HBW1 := hide hbW1
        have HX : Hid (R[i]? = some x) := by rw [hx]; exact List.getElem?_eq_getElem hiN
        have HNX := hide hnx; have HBR := hide hbr1; have HXD := hide hxd
        obtain ⟨X, hX⟩ : ∃ X, X = cvQ (rq x) := ⟨_, rfl⟩
        rw [← hX] at hld hst
        clear hX hrel hnx hbel hbW hbl r0 r1 r2 r3 hx hxs hxd hb1 hbx hbW1 hbr1 hiN
        go_upto_region 7 with fail
        have HNXT : Hid (∀ nx' : Int, Nx R s f tt (i + 1) nx' → Nx R s f tt (i + 1) nx' ∧ Below wo.heap.size wo w1) := fun nx' h => ⟨h, unhide HBR⟩
        by_cases hss : xs = s
        · have hbt : (xs.toList == s.toList) = true := by rw [hss]; simp
          by_cases ha : f ≤ xd
          · by_cases hb : xd ≤ tt
            · have hin : inS s f tt x = true := by rw [unhide HIN]; simp [hss, ha, hb]
              have HINX := hide hin
              clear hin hss
              rcases unhide HNX with ⟨e1, _⟩ | ⟨j0, r0, h0, h1, e1, _, _⟩
              · subst e1
                have HF := hide (unhide HNXT (i : Int) ((unhide HNX).take (unhide HX) (unhide HINX) (.inl rfl)))
                clear HIN HX HNX HBR HXD HNXT HINX
                refine wp_region_quiet_below (by kernel_rfl) (by kernel_rfl) ?_
                repeat (go_big_quiet_step (fail))
                refine wpQuiet_nil ?_
                rintro _ ⟨P, rfl⟩
                have HP := hide P.h
                obtain ⟨w3, hw3⟩ : ∃ w3, w3 = P.W := ⟨_, rfl⟩
                rw [← hw3] at HP ⊢
                clear hw3 P b0 b1 q1
                go_wp2_with fail
                go_round
                case rel => exact ⟨i + 1, (i : Int), by push_cast; rfl, rfl, by omega, (unhide HF).1, (unhide HF).2.trans ((unhide HP).mono (unhide HF).2.size)⟩
                case measure => simp only [intOf]; omega
              · have hj0 : j0 < R.length := (List.getElem?_eq_some_iff.1 h0).1
                have hj0' : j0 < n := by omega
                obtain ⟨b', off', eb, hbl', s0, s1, s2, s3⟩ := Rd.row (unhide HL) hj0
                clear s0 s2 s3
                have er : R[j0] = r0 := (List.getElem?_eq_some_iff.1 h0).2
                rw [er] at s1
                obtain ⟨rd, hrd⟩ : ∃ y, y = r0.day := ⟨_, rfl⟩
                rw [← hrd] at s1
                injection eb with eb
                injection eb with eb1 eb2 _
                subst eb1 eb2
                have k1 : ∀ P : Bel w1, P.W.cell? ⟨b, off + j0 * 4 + 1, none⟩ = some (.int .i64 rd) := fun P => keep1 ((unhide HBW1).trans (P.h.mono (unhide HBW1).size)) hbl' s1
                subst e1
                have hJ : (j0 : Int) < (n : Int) := by omega
                have hJ0 : ¬ (j0 : Int) < 0 := by omega
                have hJ1 : (0 : Int) ≤ (j0 : Int) := by omega
                have HH0 := hide h0; have HRD := hide hrd
                clear hbl' s1 er hj0 h0 hrd h1
                by_cases hd : xd < rd
                · have HF := hide (unhide HNXT (i : Int) ((unhide HNX).take (unhide HX) (unhide HINX) (.inr ⟨j0, r0, unhide HH0, rfl, by rw [← unhide HXD, ← unhide HRD]; exact hd⟩)))
                  clear HIN HX HNX HBR HXD HNXT HINX HH0 HRD
                  refine wp_region_quiet_below (by kernel_rfl) (by kernel_rfl) ?_
                  repeat (go_big_quiet_step (fail))
                  refine wpQuiet_nil ?_
                  rintro _ ⟨P, rfl⟩
                  have HP := hide P.h
                  obtain ⟨w3, hw3⟩ : ∃ w3, w3 = P.W := ⟨_, rfl⟩
                  rw [← hw3] at HP ⊢
                  clear hw3 P b0 b1 q1 k1
                  go_wp2_with fail
                  go_round
                  case rel => exact ⟨i + 1, (i : Int), by push_cast; rfl, rfl, by omega, (unhide HF).1, (unhide HF).2.trans ((unhide HP).mono (unhide HF).2.size)⟩
                  case measure => simp only [intOf]; omega
                · have HF := hide (unhide HNXT (j0 : Int) ((unhide HNX).keep (unhide HX) (unhide HH0) rfl (by rw [← unhide HXD, ← unhide HRD]; omega)))
                  clear HIN HX HNX HBR HXD HNXT HINX HH0 HRD
                  refine wp_region_quiet_below (by kernel_rfl) (by kernel_rfl) ?_
                  repeat (go_big_quiet_step (fail))
                  refine wpQuiet_nil ?_
                  rintro _ ⟨P, rfl⟩
                  have HP := hide P.h
                  obtain ⟨w3, hw3⟩ : ∃ w3, w3 = P.W := ⟨_, rfl⟩
                  rw [← hw3] at HP ⊢
                  clear hw3 P b0 b1 q1 k1
                  go_wp2_with fail
                  go_round
                  case rel => exact ⟨i + 1, (j0 : Int), by push_cast; rfl, rfl, by omega, (unhide HF).1, (unhide HF).2.trans ((unhide HP).mono (unhide HF).2.size)⟩
                  case measure => simp only [intOf]; omega
            · have HF := hide (unhide HNXT nx ((unhide HNX).stay (unhide HX) (by rw [unhide HIN]; simp [hb])))
              clear HIN HX HNX HBR HXD HNXT
              refine wp_region_quiet_below (by kernel_rfl) (by kernel_rfl) ?_
              repeat (go_big_quiet_step (fail))
              refine wpQuiet_nil ?_
              rintro _ ⟨P, rfl⟩
              have HP := hide P.h
              obtain ⟨w3, hw3⟩ : ∃ w3, w3 = P.W := ⟨_, rfl⟩
              rw [← hw3] at HP ⊢
              clear hw3 P b0 b1 q1
              go_wp2_with fail
              go_round
              case rel => exact ⟨i + 1, nx, by push_cast; rfl, rfl, by omega, (unhide HF).1, (unhide HF).2.trans ((unhide HP).mono (unhide HF).2.size)⟩
              case measure => simp only [intOf]; omega
          · have HF := hide (unhide HNXT nx ((unhide HNX).stay (unhide HX) (by rw [unhide HIN]; simp [ha])))
            clear HIN HX HNX HBR HXD HNXT
            refine wp_region_quiet_below (by kernel_rfl) (by kernel_rfl) ?_
            repeat (go_big_quiet_step (fail))
            refine wpQuiet_nil ?_
            rintro _ ⟨P, rfl⟩
            have HP := hide P.h
            obtain ⟨w3, hw3⟩ : ∃ w3, w3 = P.W := ⟨_, rfl⟩
            rw [← hw3] at HP ⊢
            clear hw3 P b0 b1 q1
            go_wp2_with fail
            go_round
            case rel => exact ⟨i + 1, nx, by push_cast; rfl, rfl, by omega, (unhide HF).1, (unhide HF).2.trans ((unhide HP).mono (unhide HF).2.size)⟩
            case measure => simp only [intOf]; omega
        · have hne := str_ne hss
          have HF := hide (unhide HNXT nx ((unhide HNX).stay (unhide HX) (by rw [unhide HIN]; simp [hss])))
          clear HIN HX HNX HBR HXD HNXT
          refine wp_region_quiet_below (by kernel_rfl) (by kernel_rfl) ?_
          repeat (go_big_quiet_step (fail))
          refine wpQuiet_nil ?_
          rintro _ ⟨P, rfl⟩
          have HP := hide P.h
          obtain ⟨w3, hw3⟩ : ∃ w3, w3 = P.W := ⟨_, rfl⟩
          rw [← hw3] at HP ⊢
          clear hw3 P b0 b1 q1
          go_wp2_with fail
          go_round
          case rel => exact ⟨i + 1, nx, by push_cast; rfl, rfl, by omega, (unhide HF).1, (unhide HF).2.trans ((unhide HP).mono (unhide HF).2.size)⟩
          case measure => simp only [intOf]; omega
      · have hin : i = n := by omega
        have hI : ¬ (i : Int) < (n : Int) := by omega
        have hml := (unhide hA).ml.below hbel
        have hall : ∀ (j : Nat) (r : Ro), R[j]? = some r → j < i := fun j r hj => by
          have := (List.getElem?_eq_some_iff.1 hj).1
          rw [hin, unhide HN]; exact this
        rcases hnx with ⟨rfl, h2⟩ | ⟨j0, r0, h0, h1, rfl, h3, h4⟩
        · have HO : Hid (QlO W ((btw S f0 tt).map (mq s)) (.returned (.slice p9 m c9)) wr) := by
            have e : bt3 S f0 f tt = btw S f0 tt := bt3_end fun mm hmm hf => by
              by_cases ht : tt < mm.1
              · exact ht
              · exfalso
                obtain ⟨e1, e2, _⟩ := (unhide HS).is mm hmm
                rw [e1] at e2
                obtain ⟨r, hr, ea, ed⟩ := own_row e2
                obtain ⟨j, hj⟩ := List.getElem?_of_mem hr
                have := h2 j r hj (hall j r hj)
                rw [inS_iff.2 ⟨ea, by omega, by omega⟩] at this
                cases this
            have e3 := (unhide hA).ln
            rw [e] at e3 hml
            have e4 : ((btw S f0 tt).map (mq s)).length = m := by rw [List.length_map]; exact e3
            unfold QlO
            rw [e4]
            exact ⟨p9, c9, rfl, hml⟩
          clear hrel hA hml hall h2 hbel hbW
          go_wp2_with fail
          go_ret
          exact unhide HO
        · obtain ⟨ea, hfd, hdt⟩ := inS_iff.1 h3
          have hj0 : j0 < R.length := (List.getElem?_eq_some_iff.1 h0).1
          have hj0' : j0 < n := by rw [unhide HN]; exact hj0
          obtain ⟨b, off, eb, hbl, s0, s1, s2, s3⟩ := Rd.row (unhide HL) hj0
          clear s0 s2 s3
          have er : R[j0] = r0 := (List.getElem?_eq_some_iff.1 h0).2
          rw [er] at s1
          obtain ⟨day, hday⟩ : ∃ y, y = r0.day := ⟨_, rfl⟩
          rw [← hday] at s1 hfd hdt
          subst eb
          have k1 : wr.cell? ⟨b, off + j0 * 4 + 1, none⟩ = some (.int .i64 day) := keep1 hbW hbl s1
          have hJ : (j0 : Int) < (n : Int) := by omega
          have hJ0 : ¬ (j0 : Int) < 0 := by omega
          have hJ1 : (0 : Int) ≤ (j0 : Int) := by omega
          have hr0 : r0 ∈ R := List.mem_of_getElem? h0
          have hdy := (unhide HR).dy r0 hr0
          rw [← hday] at hdy
          have hwd : IntKind.i64.wrap (day + 1) = day + 1 := by rw [IntKind.wrap_i64]; omega
          have hlft : lft R s (day + 1) tt < lft R s f tt := lft_less hr0 h3 hday.symm
          have hstep : bt3 S f0 (day + 1) tt = bt3 S f0 f tt ++ S.filter fun m => decide (m.1 = day) := bt3_step (unhide HS).up (unhide hA).le hfd hdt fun mm hmm hf ht => by
            obtain ⟨e1, e2, _⟩ := (unhide HS).is mm hmm
            rw [e1] at e2
            obtain ⟨r, hr, ea', ed⟩ := own_row e2
            obtain ⟨j, hj⟩ := List.getElem?_of_mem hr
            have := h4 j r hj (hall j r hj) (inS_iff.2 ⟨ea', by omega, by omega⟩)
            rw [← hday] at this
            omega
          rw [ser_at (unhide HS) day] at hstep
          have hle := (unhide hA).le
          have hln := (unhide hA).ln
          have hbl3 := bt3_len S f0 f tt
          have hls := unhide HLS
          obtain ⟨o, ho⟩ : ∃ o, o = own (tol R s.data.toList) day := ⟨_, rfl⟩
          obtain ⟨bc, hbc⟩ : ∃ o, o = blc (tol R s.data.toList) day := ⟨_, rfl⟩
          rw [← ho, ← hbc] at hstep
          have hfit := unhide HF day
          have e1 : sumL (amtS R s day day) = (o, 0) := by rw [sumL_is (by rw [amt_own]; exact hfit.1), amt_own, ho]
          have e2 : sumL (amtS R s 0 day) = (bc, 0) := by rw [sumL_is (by rw [amt_blc (fun r hr => ((unhide HR).dy r hr).1)]; exact hfit.2), amt_blc (fun r hr => ((unhide HR).dy r hr).1), hbc]
          have d90 := change_any ((unhide HR).below hbW) s day day
          rw [e1] at d90
          have D90 := hide d90
          have H25 : Hid (∀ w5, Below wr.heap.size wr w5 → Calls Tryz.prog 25 #[.pointer (some ⟨d, 0, none⟩), .string s, .int .i64 day] w5 fun e w6 => e = .returned (.int .i64 bc) ∧ Below w5.heap.size w5 w6) := fun w5 hb => by
            have := rat_any (((unhide HR).below hbW).below hb) s day
            rw [e2] at this
            exact this
          have HML := hide hml; have HST := hide hstep; have HLN := hide hln; have HLE := hide hle; have HLF := hide hlft; have HB3 := hide hbl3
          clear hrel hA hml hall h3 h4 hbel hbW h0 ea hj0 er hday hbl s1 hr0 hdy hlft hstep hle hln hbl3 hls ho hbc hfit e1 e2 d90 h1
          go_upto_region 13 with (first | (go_at_call 90; refine (unhide D90).mono ?_; rintro e w5 ⟨rfl, hb5⟩))
          have HM5 := hide ((unhide HML).below hb5)
          by_cases h0 : o = 0
          · subst h0
            have HFIN : Hid (BtAt W w5 R s S f0 (day + 1) tt (.slice p9 m c9) m) := by
              have e := unhide HST
              rw [if_pos rfl, List.append_nil] at e
              exact ⟨by rw [e]; exact unhide HM5, by rw [e]; exact unhide HLN, by have := unhide HLE; omega⟩
            clear hb5 D90 H25 HML HST
            go_wp2_with fail
            go_round
            case rel => exact ⟨day + 1, m, p9, c9, rfl, rfl, unhide HFIN⟩
            case measure => simp only [intOf]; exact unhide HLF
          · have hne : (o != 0) = true := by simp [h0]
            have d25 : Hid (Calls Tryz.prog 25 #[.pointer (some ⟨d, 0, none⟩), .string s, .int .i64 day] w5 fun e w6 => e = .returned (.int .i64 bc) ∧ ∃ p' c' w8, (Builtin.append_ #[22, 22] 22 #[.slice p9 m c9, .slice (some ⟨w6.heap.size, 0, none⟩) 1 1]).run Tryz.prog (w6.alloc (.cells #[.string s, .int .i64 day, .int .i64 o, .int .i64 bc] 38)) = .ok (.slice p' (m + 1) c') w8 ∧ BtAt W w8 R s S f0 (day + 1) tt (.slice p' (m + 1) c') (m + 1)) := by
              refine (unhide H25 w5 hb5).mono ?_
              rintro e w6 ⟨rfl, hb6⟩
              have hm6 := (unhide HM5).below hb6
              have el : ((bt3 S f0 f tt).map (mq s)).length = m := by rw [List.length_map]; exact unhide HLN
              obtain ⟨p', c', w8, hr8, hm8⟩ := hm6.more kQ_ok (by rw [el]; have := unhide HLN; have := unhide HB3; have := unhide HLS; omega) (mq s (day, o, bc)) #[.string s, .int .i64 day, .int .i64 o, .int .i64 bc] rfl 22 38
              rw [el] at hr8 hm8
              refine ⟨rfl, p', c', w8, hr8, ?_, ?_, by have := unhide HLE; omega⟩
              · rw [unhide HST, if_neg h0, List.map_append]
                exact hm8
              · rw [unhide HST, if_neg h0, List.length_append, unhide HLN]
                rfl
            clear hb5 D90 H25 HML HST
            go_wp2_with (first | (go_at_call 25; refine (unhide d25).mono ?_; rintro e w6 ⟨rfl, p', c', w8, hr8, hm8⟩; have HR8 := hide hr8; have HM8 := hide hm8; clear hr8 hm8) | (at_builtin; refine wpList_append_run rfl _ _ 22 rfl _ _ _ _ rfl rfl (unhide HR8) ?_))
            go_round
            case rel => exact ⟨day + 1, m + 1, p', c', rfl, rfl, unhide HM8⟩
            case measure => simp only [intOf]; exact unhide HLF
end Go.Proofs.YtmgnlgobkkfjhaaGreatDoor.Kg
namespace Go.Proofs
open Go.RowKit Go.Sort Go.Shelf

def Tryz.sortT_ren : Go.Shelf.Ren := ⟨fun | 6 => 214 | 15 => 219 | 14 => 252 | 28 => 263 | 29 => 264 | 20 => 272 | 21 => 273 | 22 => 274 | 23 => 275 | 24 => 276 | 25 => 277 | 26 => 278 | 27 => 279 | 46 => 297 | 47 => 281 | 48 => 282 | 49 => 298 | 50 => 299 | 57 => 306 | n => n, fun | 22 => 94 | 24 => 181 | 25 => 260 | 3 => 3 | 39 => 261 | 0 => 0 | 53 => 306 | 55 => 188 | 4 => 4 | 46 => 299 | 45 => 298 | 50 => 303 | 5 => 5 | 9 => 9 | 66 => 318 | 70 => 322 | 76 => 331 | 77 => 332 | n => n, fun | n => n⟩
theorem Tryz.sortT : Go.Proofs.SlLaysF0.n6 Tryz.prog Tryz.sortT_ren := {
  mixed := by kernel_rfl
  f6 := ⟨Tryz.f214.name, by decide, Tryz.func214.trans (congrArg some (by kernel_rfl))⟩
  f14 := ⟨Tryz.f252.name, by decide, Tryz.func252.trans (congrArg some (by kernel_rfl))⟩
  f15 := Tryz.func219.trans (congrArg some (by kernel_rfl))
  f20 := ⟨Tryz.f272.name, by decide, Tryz.func272.trans (congrArg some (by kernel_rfl))⟩
  f21 := ⟨Tryz.f273.name, by decide, Tryz.func273.trans (congrArg some (by kernel_rfl))⟩
  f22 := ⟨Tryz.f274.name, by decide, Tryz.func274.trans (congrArg some (by kernel_rfl))⟩
  f23 := ⟨Tryz.f275.name, by decide, Tryz.func275.trans (congrArg some (by kernel_rfl))⟩
  f24 := ⟨Tryz.f276.name, by decide, Tryz.func276.trans (congrArg some (by kernel_rfl))⟩
  f25 := ⟨Tryz.f277.name, by decide, Tryz.func277.trans (congrArg some (by kernel_rfl))⟩
  f26 := ⟨Tryz.f278.name, by decide, Tryz.func278.trans (congrArg some (by kernel_rfl))⟩
  f27 := ⟨Tryz.f279.name, by decide, Tryz.func279.trans (congrArg some (by kernel_rfl))⟩
  f28 := Tryz.func263.trans (congrArg some (by kernel_rfl))
  f29 := Tryz.func264.trans (congrArg some (by kernel_rfl))
  f46 := ⟨Tryz.f297.name, by decide, Tryz.func297.trans (congrArg some (by kernel_rfl))⟩
  f47 := Tryz.func281.trans (congrArg some (by kernel_rfl))
  f48 := Tryz.func282.trans (congrArg some (by kernel_rfl))
  f49 := ⟨Tryz.f298.name, by decide, Tryz.func298.trans (congrArg some (by kernel_rfl))⟩
  f50 := ⟨Tryz.f299.name, by decide, Tryz.func299.trans (congrArg some (by kernel_rfl))⟩
  f57 := ⟨Tryz.f306.name, by decide, Tryz.func306.trans (congrArg some (by kernel_rfl))⟩
  t0 := Tryz.underlying0
  a0 := Tryz.isAgg0
  z0 := Tryz.sizeOf0
  v0 := Tryz.zeroValue0
  t3 := Tryz.underlying3
  a3 := Tryz.isAgg3
  z3 := Tryz.sizeOf3
  v3 := Tryz.zeroValue3
  t4 := Tryz.underlying4
  a4 := Tryz.isAgg4
  z4 := Tryz.sizeOf4
  v4 := Tryz.zeroValue4
  t5 := Tryz.underlying5
  a5 := Tryz.isAgg5
  z5 := Tryz.sizeOf5
  v5 := Tryz.zeroValue5
  t9 := Tryz.underlying9
  a9 := Tryz.isAgg9
  z9 := Tryz.sizeOf9
  v9 := Tryz.zeroValue9
  t22 := Tryz.underlying94
  a22 := Tryz.isAgg94
  z22 := Tryz.sizeOf94
  v22 := Tryz.zeroValue94
  t25 := Tryz.underlying260
  a25 := Tryz.isAgg260
  z25 := Tryz.sizeOf260
  v25 := Tryz.zeroValue260
  t39 := Tryz.underlying261
  a39 := Tryz.isAgg261
  z39 := Tryz.sizeOf261
  v39 := Tryz.zeroValue261
  t45 := Tryz.underlying298
  a45 := Tryz.isAgg298
  z45 := Tryz.sizeOf298
  v45 := Tryz.zeroValue298
  t46 := Tryz.underlying299
  a46 := Tryz.isAgg299
  z46 := Tryz.sizeOf299
  v46 := Tryz.zeroValue299
  t50 := Tryz.underlying303
  a50 := Tryz.isAgg303
  z50 := Tryz.sizeOf303
  v50 := Tryz.zeroValue303
  t53 := Tryz.underlying306
  a53 := Tryz.isAgg306
  z53 := Tryz.sizeOf306
  v53 := Tryz.zeroValue306
  t55 := Tryz.underlying188
  a55 := Tryz.isAgg188
  z55 := Tryz.sizeOf188
  v55 := Tryz.zeroValue188
  t66 := Tryz.underlying318
  a66 := Tryz.isAgg318
  z66 := Tryz.sizeOf318
  v66 := Tryz.zeroValue318
  t70 := Tryz.underlying322
  a70 := Tryz.isAgg322
  z70 := Tryz.sizeOf322
  v70 := Tryz.zeroValue322
  t76 := Tryz.underlying331
  a76 := Tryz.isAgg331
  z76 := Tryz.sizeOf331
  v76 := Tryz.zeroValue331
  t77 := Tryz.underlying332
  a77 := Tryz.isAgg332
  z77 := Tryz.sizeOf332
  v77 := Tryz.zeroValue332 }
end Go.Proofs
