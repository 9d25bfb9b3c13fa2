/- aged: From (20) of a view's own state. -/
import Derived.Test.YtildpgfhahmgmaaDoorFmN
namespace Go.Proofs.YtildpgfhahmgmaaDoor
open Go Go.Shelf Go.ChangeShapes Go.WideShapes Go.ChangeAt Go.RowKit Go.Maps
set_option linter.unusedVariables false
/-- a view made since -/
structure Made (W w : World) (C : List Cl) (A : List Al) (g : Int) : Prop where
  vw : ∃ S, Vw w W.heap.size S C A g ∧ ∀ b, S b → W.heap.size ≤ b
  bel : Below W.heap.size W w
theorem Made.next {W w w' : World} {C' : List Cl} {A' : List Al} {g' : Int} {S : Nat → Prop} (hb : Below W.heap.size W w) (hS : ∀ b, S b → W.heap.size ≤ b) (h : VwNext w w' W.heap.size S C' A' g') : Made W w' C' A' g' := by
  obtain ⟨S', h1, h2, h3⟩ := h
  refine ⟨⟨S', h1, fun b hs => ?_⟩, hb.trans (h2.below hb.size (fun k hk hs => by have := hS k hs; omega))⟩
  rcases h3 b hs with h | h
  · exact hS b h
  · exact Nat.le_trans hb.size h
theorem Made.alloc {W w : World} {C : List Cl} {A : List Al} {g : Int} (h : Made W w C A g) (o : Obj) : Made W (w.alloc o) C A g := by
  obtain ⟨S, h1, h2⟩ := h.vw
  exact ⟨⟨S, h1.below ((Below.refl _ _).alloc (Nat.le_refl _) _), h2⟩, h.bel.alloc h.bel.size _⟩
attribute [local go_sem ↓] ld37_is ld51_is
set_option maxRecDepth 100000 in
set_option maxHeartbeats 8000000 in
theorem from_any {W : World} {C : List Cl} {A : List Al} {g : Int} (hG : Good C A g) (hk : ∀ c ∈ C, c.key.size ≤ maxLen ∧ c.acc.size ≤ maxLen) (hi : ∀ a ∈ A, a.inv.size ≤ maxLen) (hS : Stp W) {pc pa : Option Addr} {cc ca n m : Nat} (hn : C.length = n) (hm : A.length = m) (hC : Lies kC W pc C) (hA : Lies kA W pa A) :
    Calls Tryd.prog 20 #[.slice pc n cc, .slice pa m ca, .int .i64 (1 + g)] W fun e w' => e = .returned (.tuple #[ptr W.heap.size, .int .i64 0]) ∧ Made W w' C A g := by
  have dN := hide (new_vw (W := W) hS.lt)
  have hnb : n ≤ 1000 := by rw [← hn]; exact hG.l1
  have hmb : m ≤ 1000 := by rw [← hm]; exact hG.l2
  have HG := hide hG; have HK := hide hk; have HII := hide hi; have HS := hide hS; have HN := hide hn; have HM := hide hm; have HC := hide hC; have HA := hide hA
  obtain ⟨T, hT⟩ : ∃ T, T = 1 + g := ⟨_, rfl⟩
  rw [← hT]
  have HT := hide hT
  unfold ptr at dN ⊢
  clear hG hk hi hS hn hm hC hA hT
  go_enter Tryd.func20, Tryd.ntmps20
  go_wp2_with fail
  refine (unhide dN).mono ?_
  rintro e w1 ⟨rfl, hv1, hb1⟩
  have dA := hide (advance_any hv1 ((unhide HS).below hb1) T)
  have ha0 : advS 0 T = 0 := by rw [unhide HT]; exact (unhide HG).adv0
  rw [ha0] at dA
  have HV1 := hide hv1; have HB1 := hide hb1; have HA0 := hide ha0
  unfold ptr at dA
  clear hv1 hb1 dN ha0
  go_wp2_with fail
  refine (unhide dA).mono ?_
  rintro e w2 ⟨rfl, ho⟩
  have HM2 : Hid (Made W w2 [] [] g) := by
    have h := ho.2 (unhide HA0)
    rw [show T - 1 = g by rw [unhide HT]; omega] at h
    exact Made.next (unhide HB1) (fun b hb => by rw [hb]; exact Nat.le_refl _) h
  clear ho dA
  go_wp2_with fail
  go_loopw [20] (fun v20 wr => ∃ (j : Nat), v20 = .int .i64 j ∧ j ≤ n ∧ Hid (Made W wr (C.take j) [] g)) (fun v20 _ => n - (intOf v20).toNat)
  case atStart => exact ⟨0, rfl, by omega, unhide HM2⟩
  case round =>
    obtain ⟨j, rfl, hj, hrel⟩ := hrel
    have hMd := unhide hrel
    by_cases hlt : j < n
    · have hjl : j < C.length := by rw [unhide HN]; exact hlt
      obtain ⟨b, off, e, hbl, hr⟩ := (unhide HC).2 j hjl
      obtain ⟨c, hc⟩ : ∃ c, c = C[j] := ⟨_, rfl⟩
      have hv0 := (unhide HG).inv0 j hjl
      rw [← hc] at hr hv0
      have hcm : c ∈ C := by rw [hc]; exact List.getElem_mem hjl
      have hld := run_ld37 (w := wr) (b := b) (o := off + j * 5) (c := c) (fun i v hv => (hMd.bel.cell (p := ⟨b, off + j * 5 + i, none⟩) hbl).trans (hr i v hv))
      obtain ⟨X, hX⟩ : ∃ X, X = wr.alloc (.cells #[.string c.key, .string c.acc, .int .i64 c.day, .int .i64 c.due, .int .i64 c.amt] 37) := ⟨_, rfl⟩
      obtain ⟨tb, htb⟩ : ∃ tb, tb = wr.heap.size := ⟨_, rfl⟩
      have hTb : X.heap[tb]? = some (.cells #[.string c.key, .string c.acc, .int .i64 c.day, .int .i64 c.due, .int .i64 c.amt] 37 (0, 0)) := by rw [hX, htb]; exact heap_new _ _
      have hld2 := run_ld37 (w := X) (b := tb) (o := 0) (c := c) (fun i v hv => by
        rw [Nat.zero_add, cell_at hTb]; simpa [Cl.vals] using hv)
      have hMX : Made W X (C.take j) [] g := by rw [hX]; exact hMd.alloc _
      obtain ⟨S, hVX, hSX⟩ := hMX.vw
      have dI := hide (invoice_any hVX ((unhide HS).below hMX.bel) (c := c) (unhide HK c hcm).1 (unhide HK c hcm).2 ((unhide HG).ok c hcm).a2)
      rw [hv0] at dI
      have HREL : Hid (∀ w', InvOut X w' W.heap.size S (C.take j) [] g c → Made W w' (C.take (j + 1)) [] g) := fun w' ho => by
        have h := ho.2 hv0
        rw [List.take_succ_eq_append_getElem hjl, ← hc]
        exact Made.next hMX.bel hSX h
      have HX := hide hX; have HTB := hide htb
      unfold ptr at dI
      subst e
      clear hrel hMd hr hbl hc hcm hTb hMX hVX hSX hv0 hX htb hjl
      go_upto_region 7 with fail
      rw [← unhide HX, ← unhide HTB]
      go_wp2_with fail
      refine (unhide dI).mono ?_
      rintro e w3 ⟨rfl, ho⟩
      have HR3 := hide (unhide HREL w3 ho)
      clear ho dI
      go_wp2_with fail
      exact ⟨⟨j + 1, by simp, by omega, unhide HR3⟩, by simp [intOf]; omega⟩
    · have hjn : j = n := by omega
      subst hjn
      have et : C.take j = C := List.take_of_length_le (by rw [unhide HN]; omega)
      rw [et] at hMd
      have HMD := hide hMd
      clear hMd hrel et
      go_wp2_with fail
      go_loopw [31] (fun v31 wr => ∃ (i : Nat), v31 = .int .i64 i ∧ i ≤ m ∧ Hid (Made W wr C (A.take i) g)) (fun v31 _ => m - (intOf v31).toNat)
      case atStart => exact ⟨0, rfl, by omega, unhide HMD⟩
      case round =>
        obtain ⟨i, rfl, hi, hrel⟩ := hrel
        have hMd := unhide hrel
        by_cases hlt2 : i < m
        · have hjl : i < A.length := by rw [unhide HM]; exact hlt2
          obtain ⟨b, off, e, hbl, hr⟩ := (unhide HA).2 i hjl
          obtain ⟨x, hx⟩ : ∃ x, x = A[i] := ⟨_, rfl⟩
          have hv0 := (unhide HG).all0 i hjl
          rw [← hx] at hr hv0
          have hxm : x ∈ A := by rw [hx]; exact List.getElem_mem hjl
          have hld := run_ld51 (w := wr) (b := b) (o := off + i * 4) (x := x) (fun i' v hv => (hMd.bel.cell (p := ⟨b, off + i * 4 + i', none⟩) hbl).trans (hr i' v hv))
          obtain ⟨X, hX⟩ : ∃ X, X = wr.alloc (.cells #[.string x.pay, .string x.inv, .int .i64 x.day, .int .i64 x.amt] 51) := ⟨_, rfl⟩
          obtain ⟨tb, htb⟩ : ∃ tb, tb = wr.heap.size := ⟨_, rfl⟩
          have hTb : X.heap[tb]? = some (.cells #[.string x.pay, .string x.inv, .int .i64 x.day, .int .i64 x.amt] 51 (0, 0)) := by rw [hX, htb]; exact heap_new _ _
          have hld2 := run_ld51 (w := X) (b := tb) (o := 0) (x := x) (fun i v hv => by
            rw [Nat.zero_add, cell_at hTb]; simpa [Al.vals] using hv)
          have hMX : Made W X C (A.take i) g := by rw [hX]; exact hMd.alloc _
          obtain ⟨S, hVX, hSX⟩ := hMX.vw
          have dI := hide (allot_any hVX ((unhide HS).below hMX.bel) (x := x) (unhide HII x hxm))
          rw [hv0] at dI
          have HREL : Hid (∀ w', AllOut X w' W.heap.size S C (A.take i) g x → Made W w' C (A.take (i + 1)) g) := fun w' ho => by
            have h := ho.2 hv0
            rw [List.take_succ_eq_append_getElem hjl, ← hx]
            exact Made.next hMX.bel hSX h
          have HX := hide hX; have HTB := hide htb
          unfold ptr at dI
          subst e
          clear hrel hMd hr hbl hx hxm hTb hMX hVX hSX hv0 hX htb hjl
          go_upto_region 13 with fail
          rw [← unhide HX, ← unhide HTB]
          go_wp2_with fail
          refine (unhide dI).mono ?_
          rintro e w3 ⟨rfl, ho⟩
          have HR3 := hide (unhide HREL w3 ho)
          clear ho dI
          go_wp2_with fail
          exact ⟨⟨i + 1, by simp, by omega, unhide HR3⟩, by simp [intOf]; omega⟩
        · have hin : i = m := by omega
          subst hin
          have et : A.take i = A := List.take_of_length_le (by rw [unhide HM]; omega)
          rw [et] at hMd
          have HMD := hide hMd
          clear hMd hrel et
          go_wp2_with fail
          go_ret2
          exact ⟨rfl, unhide HMD⟩
end Go.Proofs.YtildpgfhahmgmaaDoor
