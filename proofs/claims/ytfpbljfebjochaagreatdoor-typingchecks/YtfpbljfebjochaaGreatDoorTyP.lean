/- typing: Check 16. -/
import Derived.Test.YtfpbljfebjochaaGreatDoorTyO
namespace Go.Proofs.YtfpbljfebjochaaGreatDoor
open Go Go.Shelf Go.ChangeShapes Go.WideShapes Go.ChangeAt Go.RowKit Go.Maps
set_option linter.unusedVariables false
set_option maxRecDepth 100000
set_option maxHeartbeats 4000000
/-- does a query mean something? -/
def okQ (q : Qy) : Bool := (ptsS q (tyL q.nodes)).all id
/-- what Check answers: the columns, and the error -/
def chkL (q : Qy) : List Int := if okQ q then colS q (tyL q.nodes) else []
def chkE (q : Qy) : Int := if okQ q then 0 else 140
def ld32 (x : Value) : Sem Value := Instr.loadAt 27 x
theorem ld32_is (x : Value) : Instr.loadAt 27 x = ld32 x := rfl
theorem size32 : (Tryz.prog.info? 27).map (·.size) = some 6 := by kernel_rfl
def qC (q : Qy) (a : Qa) : List Value := [.slice a.pN q.nodes.length a.cN, .int .i64 q.wh, .slice a.pB q.by'.length a.cB, .slice a.pS q.sh.length a.cS, .slice a.pO q.ords.length a.cO, .int .i64 q.lim]
theorem run_ld32 {w : World} {b o : Nat} {q : Qy} {a : Qa} (h : w.rangeAt b o (qC q a)) : (ld32 (.pointer (some ⟨b, o, none⟩))).run Tryz.prog w = .ok (qV q a) w :=
  run_loadAt_mid (P := Tryz.prog) w b o 27 (qC q a) _ h Tryz.underlying27 rfl size32
theorem JoinV.cases {W w' : World} {B : List Bool} {v : Value} (h : JoinV W B v w') : Below W.heap.size W w' ∧ Calls Tryz.prog 62 #[v, .iface 55 (.int .i64 140)] w' fun e w2 => e = .returned (.bool (!B.all id)) ∧ w2 = w' := by
  refine ⟨h.1, ?_⟩
  have h2 := h.2
  by_cases hb : B.all id = true
  · rw [if_pos hb] at h2
    rw [hb, h2]
    exact eIs_nil w'
  · rw [if_neg hb] at h2
    obtain ⟨j, b, m, c, hv, h3, h4, h5⟩ := h2
    have hb' : B.all id = false := by simpa using hb
    rw [hb', hv]
    exact eIs_join h3 h4 h5
theorem ok_shown {q : Qy} {T : List Int} (h : (ptsS q T).all id = true) : ∀ x ∈ q.sh, shwS x T = true := by
  unfold ptsS at h
  simp only [List.all_cons, List.all_nil, id_eq, Bool.and_eq_true] at h
  exact List.all_eq_true.1 h.2.2.2.2.1
attribute [local go_sem ↓] ld32_is
theorem check_any {W : World} (hF : Flds W) (hM : Mon W) (hR : Recs W) {q : Qy} {a : Qa} (hq : QIn W q a) : Calls Tryz.prog 11 #[qV q a] W fun e w' => ∃ p n c, e = .returned (.tuple #[.slice p n c, .int .i64 (chkE q)]) ∧ Rw kI W w' (.slice p n c) n (chkL q) := by
  obtain ⟨W1, hW1⟩ : ∃ X, X = W.alloc (.cells (qC q a).toArray 27) := ⟨_, rfl⟩
  have hsz : W.heap.size < W1.heap.size := by rw [hW1]; simp
  have hB1 : Below W.heap.size W W1 := by rw [hW1]; exact Below.a1 W _
  have hx : W1.rangeAt W.heap.size 0 (qC q a) := by rw [hW1]; exact new_range W (qC q a) 27
  have x0 : W1.cell? ⟨W.heap.size, 0, none⟩ = some (.slice a.pN q.nodes.length a.cN) := hx 0 _ rfl
  have L32 : Hid (∀ X, Below W1.heap.size W1 X → (ld32 (.pointer (some ⟨W.heap.size, 0, none⟩))).run Tryz.prog X = .ok (qV q a) X) := fun X h => run_ld32 (fun j u hu => (h.cell (p := ⟨W.heap.size, 0 + j, none⟩) hsz).trans (hx j u hu))
  have d1 := hide (typesOf_any (c := a.cN) (hF.below hB1) (hM.below hB1) (hR.below hB1) rfl (hq.below hB1).n hq.nn)
  have d2 : Hid (∀ (X : World) (p : Option Addr) (c : Nat), Rw kI W1 X (.slice p q.nodes.length c) q.nodes.length (tyL q.nodes) → Calls Tryz.prog 63 #[qV q a, .slice p q.nodes.length c] X fun e w' => ∃ v, e = .returned v ∧ JoinV X (ptsS q (tyL q.nodes)) v w') := fun X p c h => faults_any ((hq.below hB1).below h.bel) (h.lies kI_ok) h.len hq.nn
  have d3 : Hid (∀ (X Y : World) (p : Option Addr) (c : Nat), Rw kI W1 X (.slice p q.nodes.length c) q.nodes.length (tyL q.nodes) → Below X.heap.size X Y → okQ q = true → Calls Tryz.prog 64 #[qV q a, .slice p q.nodes.length c] Y fun e w' => ∃ p c, e = .returned (.slice p (q.by'.length + q.sh.length) c) ∧ Rw kI Y w' (.slice p (q.by'.length + q.sh.length) c) (q.by'.length + q.sh.length) (colS q (tyL q.nodes))) := fun X Y p c h hY hok => columns_any ((hF.below hB1).below (h.below hY).bel) ((hq.below hB1).below (h.below hY).bel) ((h.below hY).lies kI_ok) h.len (ok_shown hok)
  have HB1 := hide hB1
  have hqv : qV q a = .agg (qC q a).toArray := rfl
  have HQV := hide hqv
  have hE0 : Hid (okQ q = true → chkE q = 0 ∧ chkL q = colS q (tyL q.nodes)) := fun h => ⟨by unfold chkE; rw [if_pos h], by unfold chkL; rw [if_pos h]⟩
  have hE1 : Hid (okQ q = false → chkE q = 140 ∧ chkL q = []) := fun h => ⟨by unfold chkE; rw [h]; rfl, by unfold chkL; rw [h]; rfl⟩
  obtain ⟨ok, hok⟩ : ∃ b, b = okQ q := ⟨_, rfl⟩
  have HOK := hide hok
  have hpk : Hid ((ptsS q (tyL q.nodes)).all id = ok) := hok.symm
  obtain ⟨nN, hnN⟩ : ∃ n, n = q.nodes.length := ⟨_, rfl⟩
  rw [← hnN] at d1 d2 d3 x0
  have hW1' : W1 = W.alloc (.cells #[.slice a.pN nN a.cN, .int .i64 q.wh, .slice a.pB q.by'.length a.cB, .slice a.pS q.sh.length a.cS, .slice a.pO q.ords.length a.cO, .int .i64 q.lim] 27) := by rw [hW1, hnN]; rfl
  have hgo : qV q a = .agg #[.slice a.pN nN a.cN, .int .i64 q.wh, .slice a.pB q.by'.length a.cB, .slice a.pS q.sh.length a.cS, .slice a.pO q.ords.length a.cO, .int .i64 q.lim] := by rw [hnN]; rfl
  obtain ⟨qq, hqq⟩ : ∃ v, v = qV q a := ⟨_, rfl⟩
  rw [← hqq] at L32 d2 d3
  rw [hgo]
  clear hF hM hR hq hx hB1 hqv hok hqq hgo hW1 hnN HQV
  go_enter Tryz.func11, Tryz.ntmps11
  go_upto_region 1 with fail
  rw [← hW1']
  clear hW1'
  go_wp2_with fail
  refine (unhide d1).mono ?_
  rintro e w1 ⟨p1, c1, rfl, hr1⟩
  have HR1 := hide hr1
  have l1 := unhide L32 _ hr1.bel
  clear hr1
  go_wp2_with fail
  refine (unhide d2 _ _ _ (unhide HR1)).mono ?_
  rintro e w2 ⟨v2, rfl, hj⟩
  obtain ⟨hB2, hI2⟩ := hj.cases
  rw [unhide hpk] at hI2
  have HB2 := hide hB2
  have HI2 := hide hI2
  have l2 := unhide L32 _ ((unhide HR1).below hB2).bel
  clear hj hB2 hI2
  go_wp2_with fail
  refine (unhide HI2).mono ?_
  rintro e w3 ⟨rfl, hw⟩
  rw [hw]; clear hw w3
  cases ok with
  | false =>
    go_wp2_with fail
    go_ret2
    have h9 := unhide hE1 (unhide HOK).symm
    rw [h9.1, h9.2]
    refine ⟨none, 0, 0, rfl, ?_⟩
    exact ⟨⟨by simp [Kd.flat], .inl ⟨rfl, rfl⟩⟩, (unhide HB1).trans (((unhide HR1).below (unhide HB2)).bel.mono (unhide HB1).size), rfl⟩
  | true =>
    have d4 := hide (unhide d3 _ _ _ _ (unhide HR1) (unhide HB2) (unhide HOK).symm)
    go_wp2_with fail
    refine (unhide d4).mono ?_
    rintro e w4 ⟨p4, c4, rfl, hr4⟩
    have HR4 := hide hr4
    clear hr4
    go_wp2_with fail
    go_ret2
    have h9 := unhide hE0 (unhide HOK).symm
    rw [h9.1, h9.2]
    refine ⟨p4, _, c4, rfl, ?_⟩
    exact (unhide HR4).up ((unhide HB1).trans (((unhide HR1).below (unhide HB2)).bel.mono (unhide HB1).size))
end Go.Proofs.YtfpbljfebjochaaGreatDoor
