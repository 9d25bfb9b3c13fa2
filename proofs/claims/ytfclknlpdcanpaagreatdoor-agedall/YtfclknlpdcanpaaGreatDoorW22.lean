import Derived.Test.YtfclknlpdcanpaaGreatDoorW12
/- The document's aged: IsDay (100), AgeAt (106), Find (101), Until (103), OpenAt (107). -/
namespace Go.Proofs.YtfclknlpdcanpaaGreatDoor
open Go Go.Shelf Go.ChangeShapes Go.WideShapes Go.ChangeAt Go.RowKit Go.Maps
set_option linter.unusedVariables false
theorem str_ne {x s : ByteArray} (h : ¬ x = s) : (x.toList == s.toList) = false := by
  rw [ByteArray.toList_eq, ByteArray.toList_eq, beq_eq_false_iff_ne]
  intro e
  apply h
  cases x with
  | mk dx => cases s with
    | mk ds => exact congrArg ByteArray.mk (Array.toList_inj.1 e)
theorem str_inj {x s : ByteArray} (e : x.data.toList = s.data.toList) : x = s := by
  cases x with
  | mk dx => cases s with
    | mk ds => exact congrArg ByteArray.mk (Array.toList_inj.1 e)
theorem rIsDay_any (d : Int) (w : World) : Calls Tryz.prog 104 #[.int .i64 d] w fun e w' => e = .returned (.bool (dayB d)) ∧ w' = w := by
  by_cases h1 : d ≥ 1
  · by_cases h2 : d ≤ 3652059
    · have e : dayB d = true := by unfold dayB; rw [decide_eq_true h1, decide_eq_true h2]; rfl
      rw [e]
      go_enter Tryz.func104, Tryz.ntmps104
      go_wp2_with fail
      go_ret
      exact ⟨rfl, rfl⟩
    · have e : dayB d = false := by unfold dayB; rw [decide_eq_false h2, Bool.and_false]
      rw [e]
      go_enter Tryz.func104, Tryz.ntmps104
      go_wp2_with fail
      go_ret
      exact ⟨rfl, rfl⟩
  · have e : dayB d = false := by unfold dayB; rw [decide_eq_false h1, Bool.false_and]
    rw [e]
    go_enter Tryz.func104, Tryz.ntmps104
    go_wp2_with fail
    go_ret
    exact ⟨rfl, rfl⟩
theorem ageAt_any {due t : Int} (h1 : 0 ≤ due ∧ due ≤ 1000000000) (h2 : 0 ≤ t ∧ t ≤ 1000000000) (w : World) : Calls Tryz.prog 110 #[.int .i64 due, .int .i64 t] w fun e w' => e = .returned (.int .i64 (ageOf due t)) ∧ w' = w := by
  have hw : IntKind.i64.wrap (t - due) = t - due := by rw [IntKind.wrap_i64]; omega
  obtain ⟨n, hn⟩ : ∃ n, n = ageOf due t := ⟨_, rfl⟩
  have hn2 : n = if t - due ≤ 0 then 0 else if t - due ≤ 30 then 1 else if t - due ≤ 60 then 2 else if t - due ≤ 90 then 3 else 4 := by
    rw [hn]
    unfold ageOf stepsL
    simp only [List.foldr_cons, List.foldr_nil]
    (repeat' split) <;> omega
  rw [← hn]
  clear hn
  by_cases c1 : t - due ≤ 0
  · rw [if_pos c1] at hn2
    subst hn2
    go_enter Tryz.func110, Tryz.ntmps110
    go_wp2_with fail
    go_ret
    exact ⟨rfl, rfl⟩
  rw [if_neg c1] at hn2
  by_cases c2 : t - due ≤ 30
  · rw [if_pos c2] at hn2
    subst hn2
    go_enter Tryz.func110, Tryz.ntmps110
    go_wp2_with fail
    go_ret
    exact ⟨rfl, rfl⟩
  rw [if_neg c2] at hn2
  by_cases c3 : t - due ≤ 60
  · rw [if_pos c3] at hn2
    subst hn2
    go_enter Tryz.func110, Tryz.ntmps110
    go_wp2_with fail
    go_ret
    exact ⟨rfl, rfl⟩
  rw [if_neg c3] at hn2
  by_cases c4 : t - due ≤ 90
  · rw [if_pos c4] at hn2
    subst hn2
    go_enter Tryz.func110, Tryz.ntmps110
    go_wp2_with fail
    go_ret
    exact ⟨rfl, rfl⟩
  rw [if_neg c4] at hn2
  subst hn2
  go_enter Tryz.func110, Tryz.ntmps110
  go_wp2_with fail
  go_ret
  exact ⟨rfl, rfl⟩
/-- the place of the first invoice with that key -/
def FindIs (C : List Cl) (s : ByteArray) (r : Int) : Prop := (r = -1 ∧ ∀ c ∈ C, c.key ≠ s) ∨ ∃ i, ∃ h : i < C.length, r = i ∧ C[i].key = s ∧ ∀ j (hj : j < i), C[j].key ≠ s
set_option maxRecDepth 100000 in
set_option maxHeartbeats 4000000 in
theorem rfind_any {W : World} {p : Option Addr} {n c : Nat} {C : List Cl} (hn : C.length = n) (hl : n ≤ 1000000) (hC : Lies kC W p C) (s : ByteArray) :
    Calls Tryz.prog 105 #[.slice p n c, .string s] W fun e w' => ∃ r, e = .returned (.int .i64 r) ∧ FindIs C s r ∧ w' = W := by
  have HN := hide hn; have HC := hide hC
  clear hn hC
  go_enter Tryz.func105, Tryz.ntmps105
  go_wp2_with fail
  go_loopw [5] (fun v5 wr => ∃ (i : Nat), v5 = .int .i64 i ∧ i ≤ n ∧ Hid (wr = W ∧ ∀ j (hj : j < C.length), j < i → C[j].key ≠ s)) (fun v5 _ => n - (intOf v5).toNat)
  case atStart => exact ⟨0, rfl, by omega, rfl, fun j _ h => by omega⟩
  case round =>
    obtain ⟨i, rfl, hi, hrel⟩ := hrel
    obtain ⟨hw, hno⟩ := unhide hrel
    subst hw
    have HNO := hide hno
    clear hrel hno
    by_cases hlt : i < n
    · have hiC : i < C.length := by rw [unhide HN]; exact hlt
      obtain ⟨b, off, e, hbl, hr⟩ := (unhide HC).2 i hiC
      obtain ⟨k, hk⟩ : ∃ k, k = C[i].key := ⟨_, rfl⟩
      have k0 : wr.cell? ⟨b, off + i * 5, none⟩ = some (.string k) := by
        rw [hk]
        have := hr 0 _ rfl
        exact this
      have HK : Hid (∃ h : i < C.length, C[i].key = k) := ⟨hiC, hk.symm⟩
      subst e
      clear hr hbl hiC hk
      by_cases hks : k = s
      · rw [hks] at k0
        have hbt : (s.toList == s.toList) = true := by simp
        go_wp2_with fail
        go_ret
        obtain ⟨h1, h2⟩ := unhide HK
        exact ⟨_, rfl, .inr ⟨i, h1, rfl, h2.trans hks, fun j hj => unhide HNO j (by omega) hj⟩, rfl⟩
      · have hne := str_ne hks
        go_wp2_with fail
        go_round
        case rel => exact ⟨i + 1, by push_cast; rfl, by omega, (by first | exact rfl | trivial), fun j hj h => by
          rcases Nat.lt_or_ge j i with h' | h'
          · exact unhide HNO j hj h'
          · obtain rfl : j = i := by omega
            obtain ⟨h1, h2⟩ := unhide HK
            rw [h2]
            exact hks⟩
        case measure => simp only [intOf]; omega
    · go_wp2_with fail
      go_ret
      exact ⟨_, rfl, .inl ⟨rfl, fun c hc => by
        obtain ⟨j, hj, ej⟩ := List.mem_iff_getElem.1 hc
        rw [← ej]
        exact unhide HNO j hj (by have := unhide HN; omega)⟩, rfl⟩
theorem sumTo_pts (A : List Al) (s : List UInt8) (t : Int) {k : Nat} (h : k < A.length) : sumTo (ptsOf (A.take (k + 1)) s) t = sumTo (ptsOf (A.take k) s) t + (if A[k].inv.data.toList = s ∧ A[k].day ≤ t then A[k].amt else 0) := by
  rw [List.take_succ_eq_append_getElem h, ptsOf_append, sumTo_append, ptsOf_one]
  by_cases e : A[k].inv.data.toList = s
  · rw [if_pos e]
    by_cases e2 : A[k].day ≤ t
    · rw [if_pos ⟨e, e2⟩, sumTo_cons, if_pos e2, sumTo_nil, Int.add_zero]
    · rw [if_neg (fun h => e2 h.2), sumTo_cons, if_neg e2, sumTo_nil, Int.add_zero]
  · rw [if_neg e, if_neg (fun h => e h.1), sumTo_nil]
set_option maxRecDepth 100000 in
set_option maxHeartbeats 8000000 in
theorem runtil_any {W : World} {p : Option Addr} {m ca : Nat} {A : List Al} {c : Cl} (hm : A.length = m) (hl : m ≤ 1000000) (hA : Lies kA W p A) (t : Int) (hb : ∀ k, 0 ≤ sumTo (ptsOf (A.take k) c.key.data.toList) t ∧ sumTo (ptsOf (A.take k) c.key.data.toList) t ≤ c.amt) (hc : c.amt ≤ 9223372036854775807) :
    Calls Tryz.prog 107 #[.agg #[.string c.key, .string c.acc, .int .i64 c.day, .int .i64 c.due, .int .i64 c.amt], .slice p m ca, .int .i64 t] W fun e w' => e = .returned (.int .i64 (c.amt - sumTo (ptsOf A c.key.data.toList) t)) ∧ Below W.heap.size W w' := by
  obtain ⟨X, hX⟩ : ∃ X, X = W.alloc (.cells #[.string c.key, .string c.acc, .int .i64 c.day, .int .i64 c.due, .int .i64 c.amt] 56) := ⟨_, rfl⟩
  obtain ⟨bx, hbx⟩ : ∃ bx, bx = W.heap.size := ⟨_, rfl⟩
  have hbX : Below W.heap.size W X := by rw [hX]; exact (Below.refl _ _).alloc (Nat.le_refl _) _
  have hXb : X.heap[bx]? = some (.cells #[.string c.key, .string c.acc, .int .i64 c.day, .int .i64 c.due, .int .i64 c.amt] 56 (0, 0)) := by rw [hX, hbx]; exact heap_new _ _
  have x4 : X.cell? ⟨bx, 4, none⟩ = some (.int .i64 c.amt) := by rw [cell_at hXb]; rfl
  have HX := hide hX; have HBX := hide hbx; have HM := hide hm; have HA := hide (hA.below hbX); have HB := hide hb; have HXB := hide hXb; have HBB := hide hbX
  have h0 : 0 ≤ c.amt := by have := hb 0; omega
  clear hX hbx hbX hXb hm hA hb
  go_enter Tryz.func107, Tryz.ntmps107
  go_upto_region 1 with fail
  rw [← unhide HX, ← unhide HBX]
  clear HX
  go_wp2_with fail
  go_loopw [7, 8] (fun v7 v8 wr => ∃ (k : Nat) (n : Int), v8 = .int .i64 k ∧ v7 = .int .i64 n ∧ k ≤ m ∧ (0 ≤ n ∧ n ≤ c.amt) ∧ Hid (n = c.amt - sumTo (ptsOf (A.take k) c.key.data.toList) t ∧ Below X.heap.size X wr)) (fun _ v8 _ => m - (intOf v8).toNat)
  case atStart => exact ⟨0, c.amt, rfl, rfl, by omega, by omega, (by show c.amt = c.amt - 0; omega), Below.refl _ _⟩
  case round =>
    obtain ⟨k, n, rfl, rfl, hk, hnb, hrel⟩ := hrel
    obtain ⟨hne, hbw⟩ := unhide hrel
    by_cases hlt : k < m
    · have hkA : k < A.length := by rw [unhide HM]; exact hlt
      obtain ⟨b, off, e, hbl, hr⟩ := ((unhide HA).below hbw).2 k hkA
      obtain ⟨a, ha⟩ : ∃ a, a = A[k] := ⟨_, rfl⟩
      have hst := sumTo_pts A c.key.data.toList t hkA
      rw [← ha] at hr hst
      have k1 : wr.cell? ⟨b, off + k * 4 + 1, none⟩ = some (.string a.inv) := hr 1 _ rfl
      have k2 : wr.cell? ⟨b, off + k * 4 + 2, none⟩ = some (.int .i64 a.day) := hr 2 _ rfl
      have k3 : wr.drew.cell? ⟨b, off + k * 4 + 3, none⟩ = some (.int .i64 a.amt) := hr 3 _ rfl
      have hxw := (hbw.block bx (heap_lt (unhide HXB))).trans (unhide HXB)
      have x0 : wr.cell? ⟨bx, 0, none⟩ = some (.string c.key) := by rw [cell_at hxw]; rfl
      have hb1 := unhide HB (k + 1)
      have HBN : Hid (Below X.heap.size X wr.drew) := hbw.drew
      subst e
      by_cases hin : a.inv = c.key
      · rw [hin] at k1
        have hbt : (c.key.toList == c.key.toList) = true := by simp
        by_cases hd : a.day ≤ t
        · have g1 : decide (a.day ≤ t) = true := decide_eq_true hd
          rw [if_pos ⟨by rw [hin], hd⟩] at hst
          have hn2 : n - a.amt = c.amt - sumTo (ptsOf (A.take (k + 1)) c.key.data.toList) t := by omega
          have hnb2 : 0 ≤ n - a.amt ∧ n - a.amt ≤ c.amt := by omega
          have hw : IntKind.i64.wrap (n - a.amt) = n - a.amt := by rw [IntKind.wrap_i64]; omega
          have HN2 := hide hn2
          clear hr hbl hkA ha hst hne hbw hrel hxw hn2 hb1
          go_upto_region 5 with fail
          refine wp_region_last (n := 17) (S := fun W' => W'.cell? ⟨b, off + k * 4 + 1, none⟩ = some (.string c.key) ∧ W'.cell? ⟨bx, 0, none⟩ = some (.string c.key) ∧ W'.cell? ⟨b, off + k * 4 + 2, none⟩ = some (.int .i64 a.day)) (by kernel_rfl) (by exact ⟨k1, x0, k2⟩) (fun hHeld => ?_)
          refine tkW 0 ?_; refine tkW 1 ?_; refine tkW 2 ?_; refine tkW 3 ?_; refine tkN 4 ?_; refine tkW 5 ?_; refine tkN 6 ?_; refine tkW 7 ?_; refine tkW 8 ?_; refine tkW 9 ?_; refine tkW 10 ?_; refine tkW 11 ?_; refine tkW 12 ?_; refine tkN 13 ?_; refine tkW 14 ?_; refine tkW 15 ?_; refine tkW 16 ?_
          refine wpAnyL_done (by kernel_rfl) ?_
          clear hHeld
          go_wp2_with fail
          go_round
          case rel => exact ⟨k + 1, n - a.amt, by push_cast; rfl, rfl, by omega, hnb2, unhide HN2, unhide HBN⟩
          case measure => simp only [intOf]; omega
        · have g1 : decide (a.day ≤ t) = false := decide_eq_false hd
          rw [if_neg (fun h => hd h.2)] at hst
          have HN2 : Hid (n = c.amt - sumTo (ptsOf (A.take (k + 1)) c.key.data.toList) t) := by show _ = _; omega
          clear hr hbl hkA ha hst hne hbw hrel hxw hb1
          go_upto_region 5 with fail
          refine wp_region_last (n := 17) (S := fun W' => W'.cell? ⟨b, off + k * 4 + 1, none⟩ = some (.string c.key) ∧ W'.cell? ⟨bx, 0, none⟩ = some (.string c.key) ∧ W'.cell? ⟨b, off + k * 4 + 2, none⟩ = some (.int .i64 a.day)) (by kernel_rfl) (by exact ⟨k1, x0, k2⟩) (fun hHeld => ?_)
          refine tkW 0 ?_; refine tkW 1 ?_; refine tkW 2 ?_; refine tkW 3 ?_; refine tkN 4 ?_; refine tkW 5 ?_; refine tkN 6 ?_; refine tkW 7 ?_; refine tkW 8 ?_; refine tkW 9 ?_; refine tkW 10 ?_; refine tkW 11 ?_; refine tkW 12 ?_; refine tkN 13 ?_; refine tkW 14 ?_; refine tkW 15 ?_; refine tkW 16 ?_
          refine wpAnyL_done (by kernel_rfl) ?_
          clear hHeld
          go_wp2_with fail
          go_round
          case rel => exact ⟨k + 1, n, by push_cast; rfl, rfl, by omega, hnb, unhide HN2, unhide HBN⟩
          case measure => simp only [intOf]; omega
      · have hnes := str_ne hin
        rw [if_neg (fun h => hin (str_inj h.1))] at hst
        have HN2 : Hid (n = c.amt - sumTo (ptsOf (A.take (k + 1)) c.key.data.toList) t) := by show _ = _; omega
        clear hr hbl hkA ha hst hne hbw hrel hxw hb1
        go_upto_region 5 with fail
        refine wp_region_last (n := 17) (S := fun W' => W'.cell? ⟨b, off + k * 4 + 1, none⟩ = some (.string a.inv) ∧ W'.cell? ⟨bx, 0, none⟩ = some (.string c.key)) (by kernel_rfl) (by exact ⟨k1, x0⟩) (fun hHeld => ?_)
        refine tkW 0 ?_; refine tkW 1 ?_; refine tkW 2 ?_; refine tkW 3 ?_; refine tkN 4 ?_; refine tkW 5 ?_; refine tkN 6 ?_; refine tkW 7 ?_; refine tkW 8 ?_; refine tkX 9 ?_; refine tkX 10 ?_; refine tkX 11 ?_; refine tkX 12 ?_; refine tkX 13 ?_; refine tkX 14 ?_; refine tkX 15 ?_; refine tkW 16 ?_
        refine wpAnyL_done (by kernel_rfl) ?_
        clear hHeld
        go_wp2_with fail
        go_round
        case rel => exact ⟨k + 1, n, by push_cast; rfl, rfl, by omega, hnb, unhide HN2, unhide HBN⟩
        case measure => simp only [intOf]; omega
    · have HF : Hid (n = c.amt - sumTo (ptsOf A c.key.data.toList) t ∧ Below W.heap.size W wr) := by
        have hkm : k = m := by omega
        rw [hkm, ← unhide HM, List.take_length] at hne
        exact ⟨hne, (unhide HBB).trans (hbw.mono (unhide HBB).size)⟩
      clear hne hbw hrel
      go_wp2_with fail
      go_ret
      exact ⟨by rw [← (unhide HF).1]; rfl, (unhide HF).2⟩
end Go.Proofs.YtfclknlpdcanpaaGreatDoor
/- aged: Advance (14). -/
namespace Go.Proofs.YtfclknlpdcanpaaGreatDoor
open Go Go.Shelf Go.ChangeShapes Go.WideShapes Go.ChangeAt Go.RowKit Go.Maps
set_option linter.unusedVariables false
def advS (g t : Int) : Int := if dayB t = false then 1 else if t < 1 + g then 66 else 0
def AdvOut (W w' : World) (d : Nat) (S : Nat → Prop) (C : List Cl) (A : List Al) (g t : Int) : Prop := (advS g t ≠ 0 → w' = W) ∧ (advS g t = 0 → VwNext W w' d S C A (t - 1))
/-- on the way to the day t: each claim is shown as it is then, or as it was, and then all its turns are still there -/
structure AdvR (G Gr : Gh) (t : Int) : Prop where
  i0 : Inv0 Gr
  ps : Gr.ps = G.ps
  cl : Gr.cl = G.cl
  pt : Gr.pt = G.pt
  al : Gr.al = G.al
  gone : Gr.gone = t - 1
  sh : ∀ p ∈ G.ps, Gr.sh p = shr (G.cl p) (G.pt p) t ∨ (Gr.sh p = G.sh p ∧ ∀ x ∈ trn (G.cl p) (G.pt p), 1 + G.gone < x → x ≤ 3652059 → (x, p) ∈ Gr.tn)
  tc : ∀ p ∈ G.ps, ∀ x ∈ trn (G.cl p) (G.pt p), t < x → x ≤ 3652059 → (x, p) ∈ Gr.tn
theorem AdvR.start {G : Gh} (h : Inv G) {t : Int} (h1 : 1 + G.gone ≤ t) (h2 : t ≤ 3652059) : AdvR G { G with gone := t - 1 } t := by
  have h0 := h.toInv0
  have hg := h.gone
  refine ⟨{ pb := h0.pb, nd := h0.nd, km := h0.km, mp := h0.mp, kf := h0.kf, qa := h0.qa, ls := h0.ls, pt := h0.pt, lf := h0.lf, sum := h0.sum, ok := h0.ok, al := h0.al, inv := h0.inv, invm := h0.invm, gone := ⟨by show 0 ≤ t - 1; omega, by show t - 1 ≤ 3652058; omega⟩, shb := h0.shb, nw := h0.nw, hp := h0.hp, ts := h0.ts, l1 := h0.l1, l2 := h0.l2, l3 := h0.l3, l4 := h0.l4, l5 := h0.l5 }, rfl, rfl, rfl, rfl, rfl, fun p hp => .inr ⟨rfl, fun x hx h3 h4 => h.tc p hp x hx h3 h4⟩, fun p hp x hx h3 h4 => h.tc p hp x hx (by omega) h4⟩
/-- a turn taken out, its claim shown -/
theorem AdvR.step {G Gr : Gh} {t : Int} (h : AdvR G Gr t) {vt : Value} {H' : List (Int × Nat)} {n : Nat} (hn : Gr.tn.length = n + 1) (hle : (Gr.tn.getD 0 (0, 0)).1 ≤ t) (m1 : ∀ x ∈ H', x ∈ Gr.tn) (m2 : ∀ x ∈ Gr.tn, x = Gr.tn.getD 0 (0, 0) ∨ x ∈ H') (hl : H'.length = n) (hh : Hp (dy H') n) :
    (Gr.tn.getD 0 (0, 0)).2 ∈ Gr.ps ∧ Inv0 ({ Gr with vt := vt, tn := H' } : Gh) ∧ AdvR G (({ Gr with vt := vt, tn := H' } : Gh).shown (Gr.tn.getD 0 (0, 0)).2 (shr (Gr.cl (Gr.tn.getD 0 (0, 0)).2) (Gr.pt (Gr.tn.getD 0 (0, 0)).2) (1 + Gr.gone))) t := by
  obtain ⟨x0, hx0⟩ : ∃ x0, x0 = Gr.tn.getD 0 (0, 0) := ⟨_, rfl⟩
  rw [← hx0] at hle m2 ⊢
  have hmem : x0 ∈ Gr.tn := by rw [hx0]; simp [hn]
  have hp := h.i0.ts x0 hmem
  have h0 := h.i0
  have hi : Inv0 ({ Gr with vt := vt, tn := H' } : Gh) := { pb := h0.pb, nd := h0.nd, km := h0.km, mp := h0.mp, kf := h0.kf, qa := h0.qa, ls := h0.ls, pt := h0.pt, lf := h0.lf, sum := h0.sum, ok := h0.ok, al := h0.al, inv := h0.inv, invm := h0.invm, gone := h0.gone, shb := h0.shb, nw := h0.nw, hp := (by show Hp (dy H') H'.length; rw [hl]; exact hh), ts := fun x hx => h0.ts x (m1 x hx), l1 := h0.l1, l2 := h0.l2, l3 := (by show H'.length ≤ _; have := h0.l3; show H'.length ≤ 5 * Gr.ps.length + Gr.al.length; omega), l4 := h0.l4, l5 := h0.l5 }
  have hs := shr_bounds (h0.pos hp) (h0.sum _ hp) (by have := (h0.ok _ hp).a1; omega) (1 + Gr.gone)
  have ht : 1 + Gr.gone = t := by have := h.gone; omega
  refine ⟨hp, hi, ⟨hi.shown (p := x0.2) hp ⟨hs.2.2.1, hs.2.2.2, hs.1, hs.2.1⟩, h.ps, h.cl, h.pt, h.al, h.gone, fun p hpp => ?_, fun p hpp x hx h3 h4 => ?_⟩⟩
  · show (if p = x0.2 then shr (Gr.cl x0.2) (Gr.pt x0.2) (1 + Gr.gone) else Gr.sh p) = _ ∨ ((if p = x0.2 then shr (Gr.cl x0.2) (Gr.pt x0.2) (1 + Gr.gone) else Gr.sh p) = _ ∧ _)
    by_cases e : p = x0.2
    · rw [if_pos e]; left; rw [h.cl, h.pt, ht, ← e]
    · rw [if_neg e]
      refine (h.sh p hpp).imp id (fun ⟨h5, h6⟩ => ⟨h5, fun x hx h7 h8 => ?_⟩)
      rcases m2 _ (h6 x hx h7 h8) with h9 | h9
      · exact absurd (congrArg Prod.snd h9) e
      · exact h9
  · rcases m2 _ (h.tc p hpp x hx h3 h4) with h9 | h9
    · have := congrArg Prod.fst h9
      have : x = x0.1 := this
      omega
    · exact h9
/-- no turn is left up to the day -/
theorem AdvR.done {G Gr : Gh} (hG : Inv G) {t : Int} (h : AdvR G Gr t) (h1 : 1 + G.gone ≤ t) (h2 : t ≤ 3652059) (he : Gr.tn.length = 0 ∨ t < (Gr.tn.getD 0 (0, 0)).1) : Inv Gr := by
  have hno : ∀ x ∈ Gr.tn, t < x.1 := fun x hx => by
    rcases he with he | he
    · rw [List.eq_nil_of_length_eq_zero he] at hx; cases hx
    · obtain ⟨k, hk, e⟩ := List.mem_iff_getElem.1 hx
      have h5 := h.i0.hp.top k hk
      have h6 : dy Gr.tn k = x.1 := by unfold dy; rw [← e]; simp [hk]
      have h7 : dy Gr.tn 0 = (Gr.tn.getD 0 (0, 0)).1 := rfl
      omega
  have ht : 1 + Gr.gone = t := by have := h.gone; omega
  refine { h.i0 with sh := fun p hp => ?_, tc := fun p hp x hx h3 h4 => ?_ }
  · rw [h.ps] at hp
    rw [h.cl, h.pt, ht]
    rcases h.sh p hp with h5 | ⟨h5, h6⟩
    · exact h5
    · rw [h5, hG.sh p hp]
      refine shr_same h1 (fun x hx ⟨h7, h8⟩ => ?_)
      have := hno _ (h6 x hx h7 (by omega))
      have : t < x := this
      omega
  · rw [h.ps] at hp
    rw [h.cl, h.pt] at hx
    rw [ht] at h3
    exact h.tc p hp x hx h3 h4
theorem fld86 (a : Int) (q : Nat) (w : World) : (Instr.field 116 (.agg #[.int .i64 a, .pointer (some ⟨q, 0, none⟩)]) 1).run Tryz.prog w = .ok (.pointer (some ⟨q, 0, none⟩)) w := by kernel_rfl
/-- how many turns there are -/
def lenAt (w : World) (d : Nat) : Nat := match w.cell? ⟨d, 6, none⟩ with
  | some (.slice _ n _) => n
  | _ => 0
set_option maxRecDepth 100000 in
set_option maxHeartbeats 8000000 in
theorem advance_any {W : World} {d : Nat} {S : Nat → Prop} {C : List Cl} {A : List Al} {g : Int} (hV : Vw W d S C A g) (hS : Stp W) (t : Int) :
    Calls Tryz.prog 21 #[ptr d, .int .i64 t] W fun e w' => e = .returned (.int .i64 (advS g t)) ∧ AdvOut W w' d S C A g t := by
  obtain ⟨G, hI, hR, hC, hA, hg, hown⟩ := hV.ex
  have d1 := hide (isDay_any t)
  have g5 : W.cell? ⟨d, 5, none⟩ = some (.int .i64 G.gone) := by rw [cell_at hR.ob]; rfl
  have g5f : W.frozen? ⟨d, 5, none⟩ = false := froz_at hR.ob
  have dA := hide (asOf_any g5 hI.gone)
  cases h1 : dayB t with
  | false =>
    have hv : advS g t = 1 := by unfold advS; rw [if_pos h1]
    have HO : Hid (AdvOut W W d S C A g t) := ⟨fun _ => rfl, fun e => by rw [hv] at e; cases e⟩
    rw [h1] at d1
    rw [hv]
    unfold ptr
    clear hV hI hR hC hA hg hown hv h1
    go_enter Tryz.func21, Tryz.ntmps21
    go_wp2_with (first | (go_at_call 101; refine (unhide d1 _).mono ?_; rintro e w1 ⟨rfl, hw⟩; rw [hw]; clear hw w1))
    go_ret
    exact ⟨rfl, unhide HO⟩
  | true =>
    have ht2 : 1 ≤ t ∧ t ≤ 3652059 := by unfold dayB at h1; simp at h1; omega
    rw [h1] at d1
    obtain ⟨T, hT⟩ : ∃ T, T = 1 + G.gone := ⟨_, rfl⟩
    rw [← hT] at dA
    by_cases h2 : t < T
    · have hv : advS g t = 66 := by unfold advS; rw [h1, if_neg (by simp), if_pos (by rw [← hg, ← hT]; exact h2)]
      have HO : Hid (AdvOut W W d S C A g t) := ⟨fun _ => rfl, fun e => by rw [hv] at e; cases e⟩
      rw [hv]
      unfold ptr
      clear hV hI hR hC hA hg hown hv h1 hT
      go_enter Tryz.func21, Tryz.ntmps21
      go_wp2_with fail
      refine (unhide d1 _).mono ?_
      rintro e w1 ⟨rfl, hw⟩
      rw [hw]
      clear hw w1
      go_wp2_with fail
      refine (unhide dA).mono ?_
      rintro e w1 ⟨rfl, hw⟩
      rw [hw]
      clear hw w1
      go_wp2_with fail
      go_ret
      exact ⟨rfl, unhide HO⟩
    · have hv : advS g t = 0 := by unfold advS; rw [h1, if_neg (by simp), if_neg (by rw [← hg, ← hT]; exact h2)]
      have hw1 : IntKind.i64.wrap (t - 1) = t - 1 := by rw [IntKind.wrap_i64]; omega
      obtain ⟨W1, hW1⟩ : ∃ W1, W1 = W.setCell ⟨d, 5, none⟩ (.int .i64 (t - 1)) := ⟨_, rfl⟩
      have N1 : Next W W1 d G { G with gone := t - 1 } := by
        refine hR.scalar rfl rfl rfl rfl rfl rfl rfl rfl rfl rfl rfl rfl rfl rfl rfl rfl rfl ?_ ?_ (fun p hp => ?_) (fun k q hq => ?_)
        · rw [hW1]; exact (Fr.refl W _).setCell (.inl (.inl rfl)) _
        · rw [hW1, Go.heap_setCell_same _ _ _ _ _ _ hR.ob]; rfl
        · rw [hW1, Below.heap_setCell _ _ _ _ (fun e => by have h5 := hR.tyB hp; rw [e, hR.tyD] at h5; cases h5)]; exact hR.cb p hp
        · rw [hW1, Below.heap_setCell _ _ _ _ (fun e => by have h5 := hR.tyQ hq; rw [e, hR.tyD] at h5; cases h5)]; exact hR.ac k q hq
      have HR0 := hide (AdvR.start hI (t := t) (by omega) ht2.2)
      have HOUT : Hid (∀ w' Gr, Next W w' d G Gr → AdvR G Gr t → (Gr.tn.length = 0 ∨ t < (Gr.tn.getD 0 (0, 0)).1) → AdvOut W w' d S C A g t) := fun w' Gr hn hr he => by
        refine ⟨fun e => absurd hv e, fun _ => vw_next hn hown hV.z hS.lt (hr.done hI (by omega) ht2.2 he) ?_ ?_ ?_⟩
        · rw [hr.ps, hr.cl, hC]
        · rw [hr.al, hA]
        · exact hr.gone
      have HZ : Hid (¬ G.own d 0) := fun h => hV.z (hown 0 h)
      have HS := hide hS; have HN1 := hide N1; have HW1 := hide hW1
      rw [hv]
      unfold ptr
      clear hV hI hR hC hA hg hown hv h1 hT N1 hW1
      go_enter Tryz.func21, Tryz.ntmps21
      go_wp2_with fail
      refine (unhide d1 _).mono ?_
      rintro e w1 ⟨rfl, hw⟩
      rw [hw]
      clear hw w1
      go_wp2_with fail
      refine (unhide dA).mono ?_
      rintro e w1 ⟨rfl, hw⟩
      rw [hw]
      clear hw w1 d1 dA
      go_wp2_with fail
      rw [← unhide HW1]
      clear HW1
      go_loopw [17] (fun _ wr => Hid (∃ Gr, Next W wr d G Gr ∧ AdvR G Gr t)) (fun _ wr => lenAt wr d)
      case atStart => exact ⟨_, unhide HN1, unhide HR0⟩
      case round =>
        obtain ⟨Gr, hN, hA⟩ := unhide hrel
        obtain ⟨pv, cv, hvt, hnil, hsome⟩ := row_slice hN.raw.rt
        have c6 : wr.cell? ⟨d, 6, none⟩ = some (.slice pv Gr.tn.length cv) := by rw [cell_at hN.raw.ob]; show some Gr.vt = _; rw [hvt]
        have hla : lenAt wr d = Gr.tn.length := by unfold lenAt; rw [c6]
        have hl3 := hA.i0.l3; have hl1 := hA.i0.l1; have hl2 := hA.i0.l2
        have HN := hide hN; have HA := hide hA; have HLA := hide hla
        cases hn : Gr.tn.length with
        | zero =>
          rw [hn] at c6
          have HFIN := hide (unhide HOUT wr Gr hN hA (.inl hn))
          clear hN hA hrel hvt hnil hsome hla hn hl1 hl2 hl3
          go_wp2_with fail
          go_ret
          exact ⟨rfl, unhide HFIN⟩
        | succ n =>
          rw [hn] at c6 hla
          obtain ⟨gb, rfl⟩ : ∃ gb, pv = some ⟨gb, 0, none⟩ := by
            have h5 := hN.raw.rt
            rw [hvt] at h5
            rcases h5.2 with ⟨h6, h7⟩ | ⟨g', cap', cur, h6, _⟩
            · omega
            · injection h6 with h6; exact ⟨g', h6⟩
          have hTR : TR wr gb (n + 1) cv Gr.tn := ⟨by
            have h5 := hN.raw.rt
            rw [hvt, hn] at h5
            exact h5, hn⟩
          have c0 := hTR.day (k := 0) (by omega)
          rw [Nat.zero_mul] at c0
          obtain ⟨D, hD⟩ : ∃ D, dy Gr.tn 0 = D := ⟨_, rfl⟩
          rw [hD] at c0
          by_cases hle : D ≤ t
          · have dP := hide (pop_any (W := wr) (d := d) (n := n) (H := Gr.tn) hN.raw.ob (by have h5 := hN.raw.rt; rw [hn] at h5; exact h5) hn (by omega) (by have h5 := hA.i0.hp; rw [hn] at h5; exact h5))
            obtain ⟨x1, hx1⟩ : ∃ x1, x1 = Gr.tn.getD 0 (0, 0) := ⟨_, rfl⟩
            rw [← hx1] at dP
            have HX1 := hide hx1; have HHN := hide hn; have HDD := hide hD
            unfold ptr at dP
            clear hN hA hrel hvt hnil hsome hla hn hl1 hl2 hl3 hTR hD hx1
            go_wp2_with fail
            refine (unhide dP).mono ?_
            rintro e w1 ⟨rfl, hpop⟩
            obtain ⟨H', m1, m2, ht⟩ := hpop
            have hn := unhide HHN
            obtain ⟨vt', hn2⟩ := (unhide HN).raw.turns ht
            obtain ⟨hpm, hi0, hr2⟩ := (unhide HA).step (vt := vt') hn (by
              show dy Gr.tn 0 ≤ t
              rw [unhide HDD]; exact hle) m1 m2 ht.len ht.hp
            rw [← unhide HX1] at hpm hr2
            have hN2 := (unhide HN).trans hn2
            obtain ⟨q, hq⟩ := some_of ((hi0.qa (({ Gr with vt := vt', tn := H' } : Gh).key x1.2)).2 ⟨x1.2, hpm, rfl⟩)
            have dS := hide (show_any (W := w1) (d := d) (p := x1.2) (q := q) hn2.raw (by rw [← hi0.pb]; exact hpm) hq ((unhide HS).keep (hN2.fr.block 0 (unhide HS).lt (unhide HZ))) (fun h => (hN2.own 0 h).elim (unhide HZ) (fun h => by have := (unhide HS).lt; omega)) (hi0.showOK hpm))
            unfold ptr at dS
            have HN2 := hide hN2; have HR2 := hide hr2; have HL2 := hide ht.len
            have hfl := fld86 x1.1 x1.2 w1
            clear hpm hi0 hr2 hN2 hq hn2 m1 m2 ht hn dP
            go_wp2_with fail
            refine (unhide dS).mono ?_
            rintro e w2 ⟨rfl, hn3⟩
            have HREL : Hid (∃ Gr, Next W w2 d G Gr ∧ AdvR G Gr t) := ⟨_, (unhide HN2).trans hn3, unhide HR2⟩
            have HLT : Hid (lenAt w2 d < lenAt wr d) := by
              show _ < _
              rw [unhide HLA, unhide HHN]
              obtain ⟨p3, c3, h3, _, _⟩ := row_slice hn3.raw.rt
              have h5 : w2.cell? ⟨d, 6, none⟩ = some (.slice p3 H'.length c3) := by
                rw [cell_at hn3.raw.ob]
                exact congrArg some h3
              unfold lenAt
              rw [h5]
              show H'.length < n + 1
              rw [unhide HL2]
              omega
            clear hn3 dS
            go_wp2_with fail
            exact ⟨unhide HREL, unhide HLT⟩
          · have HFIN := hide (unhide HOUT wr Gr hN hA (.inr (by
              show t < dy Gr.tn 0
              rw [hD]; omega)))
            clear hN hA hrel hvt hnil hsome hla hn hl1 hl2 hl3 hTR hD
            go_wp2_with fail
            go_ret
            exact ⟨rfl, unhide HFIN⟩
end Go.Proofs.YtfclknlpdcanpaaGreatDoor
