import Derived.Test.YtbenciieenbmeaaGreatDoorW21
/- answer: take 47: what a row does to a scan. -/
namespace Go.Proofs.YtbenciieenbmeaaGreatDoor
open Go Go.Shelf Go.ChangeShapes Go.WideShapes Go.ChangeAt Go.RowKit Go.Maps
set_option linter.unusedVariables false
set_option maxRecDepth 100000
set_option maxHeartbeats 4000000
section
variable {P : Program} {ops : Array Oper} {Q : Exit → Act → World → Prop} {md : Region.Mode} {S : World → Prop} {n : Nat}
theorem wpAnyL_two {i j : Nat} {o o' : Oper} {fuel : Nat} {listed : Array Bool} {a : Act} {w : World} (hr : Region.ready md ops listed = [i, j]) (ho : ops[i]? = some o) (ho' : ops[j]? = some o')
    (h : ∀ K' : Act → World → Prop, Shut (∀ a w, S w → (S w → wpAnyL P md ops Q S n fuel (listed.setIfInBounds i true) a w) → K' a w) → if Region.wanted o (yielded ops a.tmps) = true then Oper.wp P o a w K' Q else K' (a.put o.dst undef) w)
    (h' : ∀ K' : Act → World → Prop, Shut (∀ a w, S w → (S w → wpAnyL P md ops Q S n fuel (listed.setIfInBounds j true) a w) → K' a w) → if Region.wanted o' (yielded ops a.tmps) = true then Oper.wp P o' a w K' Q else K' (a.put o'.dst undef) w) : wpAnyL P md ops Q S n (fuel + 1) listed a w := by
  refine ⟨fun h0 => (by rw [hr] at h0; cases h0), fun k hk => ?_⟩
  rw [hr] at hk
  rcases List.mem_cons.1 hk with rfl | hk
  · exact wpOp_step ho (fun K' hK => h K' (fun a w hS hW => hK a w ⟨fun _ => hS, hW hS⟩))
  · rw [List.mem_singleton] at hk
    subst hk
    exact wpOp_step ho' (fun K' hK => h' K' (fun a w hS hW => hK a w ⟨fun _ => hS, hW hS⟩))
end
theorem results_t {P : Program} {fn : Func} {a : Nat} (h : fn.results = #[.tmp a]) {tmps : Array Value} {v : Value} {w : World} (ha : tmps.getD a undef = v) : (results fn tmps).run P w = .ok v w := by
  unfold results
  simp only [Array.getD_eq_getD_getElem?] at ha
  simp [h, ha]
theorem results_tt {P : Program} {fn : Func} {a b : Nat} (h : fn.results = #[.tmp a, .tmp b]) {tmps : Array Value} {v u : Value} {w : World} (ha : tmps.getD a undef = v) (hb : tmps.getD b undef = u) : (results fn tmps).run P w = .ok (.tuple #[v, u]) w := by
  unfold results
  simp only [Array.getD_eq_getD_getElem?] at ha hb
  simp [h, ha, hb]
/-- a query's condition at a row -/
noncomputable def whC (q : Qy) (r : Ro) : Cl := if q.wh < 0 then tru true else vat (vlL q.nodes r) q.wh
/-- what a row does: its error, the keys, what each group's tallies come to -/
noncomputable def stE (q : Qy) (F : List Int) (S : List Ag) (r : Ro) : Int := if (whC q r).ty = 0 then 11 else if ¬ (whC q r).num = 1 then 0 else if badK F r = true then 11 else if badT (vlL q.nodes r) S = true then 11 else 0
noncomputable def stK1 (q : Qy) (F : List Int) (ks : List (List Cl)) (r : Ro) : List (List Cl) := if (whC q r).num = 1 then (if keyK F r ∈ ks then ks else ks ++ [keyK F r]) else ks
noncomputable def stF (q : Qy) (F : List Int) (φ : List Cl → Ag → Int × Cl) (r : Ro) : List Cl → Ag → Int × Cl := fun k => if (whC q r).num = 1 ∧ k = keyK F r then tlN1 (vlL q.nodes r) (φ k) else φ k
/-- what stands still while rows are taken -/
structure Env (W : World) (q : Qy) (a : Qa) (pF : Option Addr) (nF cF : Nat) (F : List Int) (pS : Option Addr) (nS cS : Nat) (S : List Ag) : Prop where
  n : Lies kN W a.pN q.nodes
  nb : q.nodes.length ≤ 4194304
  np : ∀ b o, a.pN = some ⟨b, o, none⟩ → b < W.heap.size
  ah : Ahd q.nodes
  nd : ∀ x ∈ q.nodes, NdOk x
  wh : q.wh < 0 ∨ q.wh < q.nodes.length
  f : Lies kI W pF F
  fn : F.length = nF
  f14 : nF ≤ 14
  s : Lies kA W pS S
  sn : S.length = nS
  sb : nS ≤ 4194304
  s0 : S ≠ []
  sa : ∀ x ∈ S, AgIn q.nodes.length x
  mon : Mon W
  mx : Mx W
  six : 6 ≤ W.heap.size
def fxV (q : Qy) (a : Qa) (pF : Option Addr) (nF cF : Nat) (pS : Option Addr) (nS cS : Nat) (pP : Option Addr) (nP cP : Nat) : List Value := qC q a ++ [.slice pF nF cF, .slice pS nS cS, .slice pP nP cP]
/-- a scan with its groups as keys and what their tallies come to -/
structure Sg (B : Nat) (W : World) (d g b : Nat) (fx : List Value) (nN cv nS : Nat) (S : List Ag) (ks : List (List Cl)) (φ : List Cl → Ag → Int × Cl) : Prop where
  ex : ∃ V vG gs, Sc B W d g b fx nN cv nS V vG gs ∧ (∀ c ∈ V, Cok c) ∧ gs.map Gr.key = ks ∧ ∀ x ∈ gs, x.tl = S.map (φ x.key)
def TakeOut (B : Nat) (W : World) (d g b : Nat) (fx : List Value) (nN cv nS : Nat) (q : Qy) (F : List Int) (S : List Ag) (ks : List (List Cl)) (φ : List Cl → Ag → Int × Cl) (r : Ro) (e : Ending) (w' : World) : Prop :=
  e = .returned (.int .i64 (stE q F S r)) ∧ Below B W w' ∧ (stE q F S r = 0 → Sg B w' d g b fx nN cv nS S (stK1 q F ks r) (stF q F φ r))
theorem in0 : inI 0 := ⟨by decide, by decide⟩
theorem in1 : inI 1 := ⟨by decide, by decide⟩
theorem in2 : inI 2 := ⟨by decide, by decide⟩
theorem in3 : inI 3 := ⟨by decide, by decide⟩
theorem in5 : inI 5 := ⟨by decide, by decide⟩
theorem fw_ty (f : Int) (r : Ro) : inI (fwC f r).ty := by
  have hfit : ∀ (b : Bool) (c : Cl), inI c.ty → inI (fit b c).ty := fun b c h => by
    cases b
    · exact in0
    · exact h
  unfold fwC
  split; exact hfit _ _ in1
  split; exact hfit _ _ in1
  split; exact hfit _ _ in1
  split; exact in2
  split; exact in2
  split; exact in2
  split; exact in2
  split; exact in2
  split; exact hfit _ _ in5
  unfold dayC
  refine hfit _ _ ?_
  split; exact in3
  split; exact in1
  split; exact in1
  exact in1
theorem key_ok {F : List Int} {r : Ro} (h : F.length ≤ 14) (hr : RoOk r) : Kok (keyK F r) := by
  refine ⟨by unfold keyK; rw [List.length_append, List.length_map, List.length_replicate]; omega, fun c hc => ?_⟩
  unfold keyK at hc
  rcases List.mem_append.1 hc with h1 | h1
  · obtain ⟨f, _, rfl⟩ := List.mem_map.1 h1
    have h2 := fw_ok (f := f) hr
    exact ⟨fw_ty f r, h2.1, by unfold maxLen; have := h2.2; omega⟩
  · rw [List.mem_replicate] at h1
    rw [h1.2]
    exact ⟨in0, in0, Nat.zero_le _⟩
def ld80 (x : Value) : Sem Value := Instr.loadAt 80 x
theorem ld80_is (x : Value) : Instr.loadAt 80 x = ld80 x := rfl
theorem sz80 : (Tryz.prog.info? 80).map (·.size) = some 3 := by kernel_rfl
theorem run_ld80 {w : World} {b o : Nat} {x y z : Value} (h : w.rangeAt b o [x, y, z]) : (ld80 (.pointer (some ⟨b, o, none⟩))).run Tryz.prog w = .ok (.agg #[x, y, z]) w :=
  run_loadAt_mid (P := Tryz.prog) w b o 80 [x, y, z] _ h Tryz.underlying80 rfl sz80
section
variable {W0 W : World} {d g b : Nat} {q : Qy} {a : Qa} {pF : Option Addr} {nF cF : Nat} {F : List Int} {pS : Option Addr} {nS cS : Nat} {S : List Ag} {pP : Option Addr} {nP cP cv : Nat} {ks : List (List Cl)} {φ : List Cl → Ag → Int × Cl} {r : Ro}
/-- the group is sought and told -/
theorem told_any (hE : Env W0 q a pF nF cF F pS nS cS S) (hB : Below W0.heap.size W0 W) {V : List Cl} {vG : Value} {gs : List Gr} (h : Sc W0.heap.size W d g b (fxV q a pF nF cF pS nS cS pP nP cP) q.nodes.length cv nS V vG gs) (hVo : ∀ c ∈ V, Cok c) (hks : gs.map Gr.key = ks) (htl : ∀ x ∈ gs, x.tl = S.map (φ x.key)) (hφ : ∀ k, k ∉ ks → φ k = fun _ => (0, .no)) (hkl : ks.length ≤ 4194304) {k : List Cl} (hk : Kok k) :
    Calls Tryz.prog 49 #[.pointer (some ⟨d, 0, none⟩), kV k] W fun e w1 => ∃ t, e = .returned (.slice (some ⟨t, 0, none⟩) nS nS) ∧ Below W0.heap.size W w1 ∧
      Calls Tryz.prog 81 #[.pointer (some ⟨d, 0, none⟩), .slice (some ⟨t, 0, none⟩) nS nS] w1 fun e w2 => e = .returned (.int .i64 (if badT V S = true then 11 else 0)) ∧ Below W0.heap.size W w2 ∧ (badT V S = false → Sg W0.heap.size w2 d g b (fxV q a pF nF cF pS nS cS pP nP cP) q.nodes.length cv nS S (if k ∈ ks then ks else ks ++ [k]) (fun k' => if k' = k then tlN1 V (φ k') else φ k')) := by
  have hgl : gs.length = ks.length := by rw [← hks, List.length_map]
  have hfx7 : (fxV q a pF nF cF pS nS cS pP nP cP)[7]? = some (.slice pS nS cS) := rfl
  refine (groupOf_any h hB.size (by omega) hE.sb hk hfx7).mono fun e w1 ⟨t, t0, i, vG', he, hSc, hBe, x, hx, hxk, hxt⟩ => ⟨t, he, hBe, ?_⟩
  obtain ⟨hi, hxe⟩ := List.getElem?_eq_some_iff.1 hx
  have hxm : x ∈ grG gs k t0 nS := by rw [← hxe]; exact List.getElem_mem hi
  have hne := hSc.ne
  have hB1 : Below W0.heap.size W0 w1 := hB.trans hBe
  have hkeys : (grG gs k t0 nS).map Gr.key = if k ∈ ks then ks else ks ++ [k] := by
    unfold grG
    rw [hks]
    split
    · exact hks
    · rw [List.map_append, hks]; rfl
  have htl' : ∀ y ∈ grG gs k t0 nS, y.tl = S.map (φ y.key) := fun y hy => by
    unfold grG at hy
    split at hy
    · exact htl y hy
    · rename_i hnk
      rcases List.mem_append.1 hy with h1 | h1
      · exact htl y h1
      · rw [List.mem_singleton] at h1
        subst h1
        rw [hks] at hnk
        show List.replicate nS (0, Cl.no) = S.map (φ k)
        rw [hφ k hnk, List.map_const', hE.sn]
  have hxl := htl' x hxm
  rw [hxk] at hxl
  have hT := hSc.tal x hxm
  rw [hxl, hxt] at hT
  have hd7 : Bk w1 d 112 ((qC q a ++ [.slice pF nF cF]) ++ .slice pS nS cS :: [.slice pP nP cP, .slice (some ⟨g, 0, none⟩) q.nodes.length cv, vG', .map (some b)]) := by
    have := hSc.blk
    unfold fxV at this
    simpa using this
  have hlo := hSc.lo.2.2.2 x hxm
  refine (tell_any (f := φ k) (by rfl) hd7 rfl (hE.s.below hB1) hE.sn hE.sb hSc.vals.v hSc.vn hE.sa (fun c hc => (hVo c hc).1) hT (fun e => hne.td x hxm (by rw [hxt, e])) (fun e => hne.tg x hxm (by rw [hxt, e])) (fun b' off e => ?_) nS).mono fun e w2 ⟨he2, hF2, hT2⟩ => ⟨he2, ?_, fun hbad => ?_⟩
  · obtain ⟨b'', off'', e3, hlt, _⟩ := hE.s.2 0 (List.length_pos_iff.2 hE.s0)
    rw [e] at e3
    injection e3 with e3
    injection e3 with e3 _
    omega
  · exact hBe.trans (hF2.below hB1.size (fun j hj e => by omega))
  · have := hSc.told i hi (S.map (tlN1 V (φ k))) (by rw [List.length_map, hE.sn]) (by rw [hxe, hxt]; exact hF2) (by rw [hxe, hxt]; exact hT2 hbad)
    refine ⟨V, vG', _, this, hVo, ?_, fun y hy => ?_⟩
    · rw [← hkeys, List.map_set]
      show (List.map Gr.key (grG gs k t0 nS)).set i (grG gs k t0 nS)[i].key = _
      rw [← List.getElem_map Gr.key (h := by simpa using hi), List.set_getElem_self]
    · obtain ⟨j, hj, rfl⟩ := List.mem_iff_getElem.1 hy
      rw [List.length_set] at hj
      by_cases hij : i = j
      · subst hij
        rw [List.getElem_set_self]
        show S.map (tlN1 V (φ k)) = S.map (if (grG gs k t0 nS)[i].key = k then _ else _)
        rw [hxe, if_pos hxk, hxk]
      · rw [List.getElem_set_ne hij]
        have hjm : (grG gs k t0 nS)[j] ∈ grG gs k t0 nS := List.getElem_mem hj
        have hkne : ¬ (grG gs k t0 nS)[j].key = k := fun e => hij (nodup_inj hSc.kn (by simpa using hi) (by simpa using hj) (by simp only [List.getElem_map]; rw [hxe, hxk, e]))
        rw [if_neg hkne]
        exact htl' _ hjm
end
/-- a scan within take: the row's box, the condition's cell -/
structure TkS (B : Nat) (W : World) (d g b : Nat) (fx : List Value) (nN cv nS : Nat) (V : List Cl) (vG : Value) (gs : List Gr) (r : Ro) (s5 : Nat) (c : Cl) (Y : World) : Prop where
  sc : Sc B Y d g b fx nN cv nS V vG gs
  bel : Below B W Y
  b5 : Bk Y s5 45 (kcs [c])
  bx : Bk Y W.heap.size 39 r.vals
  h5 : W.heap.size < s5
section
variable {B : Nat} {W : World} {d g b : Nat} {fx : List Value} {nN cv nS : Nat} {V : List Cl} {vG : Value} {gs : List Gr} {r : Ro} {s5 : Nat} {c : Cl} {Y Y' : World}
theorem TkS.below (h : TkS B W d g b fx nN cv nS V vG gs r s5 c Y) (hB : B ≤ W.heap.size) (hb : Below Y.heap.size Y Y') : TkS B W d g b fx nN cv nS V vG gs r s5 c Y' :=
  ⟨h.sc.below hb, h.bel.trans (hb.mono (Nat.le_trans hB h.bel.size)), h.b5.same (hb.block _ h.b5.lt), h.bx.same (hb.block _ h.bx.lt), h.h5⟩
/-- what changes only blocks that are of no use to the scan -/
theorem TkS.fr (h : TkS B W d g b fx nN cv nS V vG gs r s5 c Y) (hB : B ≤ W.heap.size) {x : Nat} (hF : Fr Y Y' (fun i => i = x)) (hx : x ≠ s5) (hxt : W.heap.size < x) (hty : Y.heap.size ≤ x ∨ ∃ cs t, Y.heap[x]? = some (.cells cs t (0, 0)) ∧ t ≠ 112 ∧ t ≠ 119 ∧ t ≠ 167 ∧ x ≠ g) : TkS B W d g b fx nN cv nS V vG gs r s5 c Y' := by
  have hno : ∀ i, i < Y.heap.size → (∀ cs t, Y.heap[x]? = some (.cells cs t (0, 0)) → t ≠ 112 → t ≠ 119 → t ≠ 167 → x ≠ g → i ≠ x) → Y'.heap[i]? = Y.heap[i]? := fun i hi h1 => hF.block i hi (by
    rcases hty with h2 | ⟨cs, t, h2, h3, h4, h5, h6⟩
    · show ¬ i = x; omega
    · exact h1 cs t h2 h3 h4 h5 h6)
  have ek : ∀ {i : Nat} {cs : Array Value} {t : TypeId}, Y.heap[i]? = some (.cells cs t (0, 0)) → (t = 112 ∨ t = 119 ∨ t = 167) → Y'.heap[i]? = Y.heap[i]? := fun {i cs t} hi ht => hno i (Array.getElem?_eq_some_iff.1 hi).1 (fun cs' t' h2 h3 h4 h5 h6 => ne_type hi h2 (by rcases ht with rfl | rfl | rfl; exact fun e => h3 e.symm; exact fun e => h4 e.symm; exact fun e => h5 e.symm))
  have hs := h.sc
  refine ⟨{
    fl := hs.fl
    blk := hs.blk.same (ek hs.blk (.inl rfl))
    vals := hs.vals.same hF.size (hno g hs.vals.v.lt (fun _ _ _ _ _ _ h6 e => h6 e.symm))
    vn := hs.vn
    row := row_keep hs.row (fun q hq => by obtain ⟨cur, hc⟩ := row_at hs.row hq; exact ek hc (.inr (.inl rfl)))
    mp := hs.mp.same (hno b hs.mp.lt (fun cs t h2 _ _ _ _ e => by obtain ⟨es, ck, hb⟩ := hs.mp.isMap; exact ne_cells h2 hb e.symm))
    tal := fun x' hx' => by
      obtain ⟨cs, h1, _⟩ := hs.tal x' hx'
      exact (hs.tal x' hx').same (ek h1 (.inr (.inr rfl)))
    tn := hs.tn
    nd := hs.nd
    kn := hs.kn
    ok := hs.ok
    lo := hs.lo }, h.bel.trans (hF.below (Nat.le_trans hB h.bel.size) (fun j hj e => by omega)), h.b5.same (hF.block _ h.b5.lt (fun e => hx e.symm)), h.bx.same (hF.block _ h.bx.lt (by show ¬ W.heap.size = x; omega)), h.h5⟩
end
section
variable {W0 W : World} {d g b : Nat} {q : Qy} {a : Qa} {pF : Option Addr} {nF cF : Nat} {F : List Int} {pS : Option Addr} {nS cS : Nat} {S : List Ag} {pP : Option Addr} {nP cP cv : Nat} {ks : List (List Cl)} {φ : List Cl → Ag → Int × Cl} {r : Ro}
attribute [local go_sem ↓] stC_is ldC_is ldR_is ldK_is stK_is ld80_is
theorem take_row (hE : Env W0 q a pF nF cF F pS nS cS S) (hB : Below W0.heap.size W0 W) (h : Sg W0.heap.size W d g b (fxV q a pF nF cF pS nS cS pP nP cP) q.nodes.length cv nS S ks φ) (hφ : ∀ k, k ∉ ks → φ k = fun _ => (0, .no)) (hkl : ks.length ≤ 4194304) (hr : RoOk r) :
    Calls Tryz.prog 47 #[.pointer (some ⟨d, 0, none⟩), r.val] W (TakeOut W0.heap.size W d g b (fxV q a pF nF cF pS nS cS pP nP cP) q.nodes.length cv nS q F S ks φ r) := by
  obtain ⟨V, vG, gs, hSc, hVo, hks, htl⟩ := h.ex
  obtain ⟨fx, hfx⟩ : ∃ fx, fx = fxV q a pF nF cF pS nS cS pP nP cP := ⟨_, rfl⟩
  obtain ⟨V1, hV1⟩ : ∃ V1, V1 = vlL q.nodes r := ⟨_, rfl⟩
  obtain ⟨nN, hnN⟩ : ∃ n, n = q.nodes.length := ⟨_, rfl⟩
  obtain ⟨B, hBB⟩ : ∃ B, B = W0.heap.size := ⟨_, rfl⟩
  obtain ⟨c, hc⟩ : ∃ c, c = whC q r := ⟨_, rfl⟩
  have hBW : B ≤ W.heap.size := by rw [hBB]; exact hB.size
  have hV1l : V1.length = nN := by rw [hV1, hnN]; exact vlL_len _ _
  have hV1o : ∀ c ∈ V1, Cok c := fun c hc => by
    have := vl_ok (L := q.nodes) hr hE.nd q.nodes.length (Nat.le_refl _) c
    rw [List.take_length, ← hV1] at this
    exact this hc
  rw [← hfx, ← hnN, ← hBB] at hSc
  -- how it can end
  obtain ⟨OUT, hOUT⟩ : ∃ P : Ending → World → Prop, P = TakeOut W0.heap.size W d g b (fxV q a pF nF cF pS nS cS pP nP cP) q.nodes.length cv nS q F S ks φ r := ⟨_, rfl⟩
  have O1 : Hid (c.ty = 0 → ∀ w', Below B W w' → OUT (.returned (.int .i64 11)) w') := fun h0 w' hb => by
    have e : stE q F S r = 11 := by unfold stE; rw [← hc, if_pos h0]
    rw [hOUT]; exact ⟨by rw [e], by rw [← hBB]; exact hb, fun h => by rw [e] at h; cases h⟩
  have O2 : Hid (¬ c.ty = 0 → ¬ c.num = 1 → ∀ w', Below B W w' → Sc B w' d g b fx nN cv nS V1 vG gs → OUT (.returned (.int .i64 0)) w') := fun h0 h1 w' hb hs => by
    have e : stE q F S r = 0 := by unfold stE; rw [← hc, if_neg h0, if_pos h1]
    have e2 : stK1 q F ks r = ks := by unfold stK1; rw [← hc, if_neg h1]
    have e3 : stF q F φ r = φ := by funext k; unfold stF; rw [← hc, if_neg (fun h => h1 h.1)]
    rw [hOUT]; exact ⟨by rw [e], by rw [← hBB]; exact hb, fun _ => by rw [e2, e3]; exact ⟨V1, vG, gs, by rw [← hfx, ← hnN, ← hBB]; exact hs, hV1o, hks, htl⟩⟩
  have O3 : Hid (¬ c.ty = 0 → c.num = 1 → badK F r = true → ∀ w', Below B W w' → OUT (.returned (.int .i64 11)) w') := fun h0 h1 h2 w' hb => by
    have e : stE q F S r = 11 := by unfold stE; rw [← hc, if_neg h0, if_neg (fun h => h h1), if_pos h2]
    rw [hOUT]; exact ⟨by rw [e], by rw [← hBB]; exact hb, fun h => by rw [e] at h; cases h⟩
  have O4 : Hid (¬ c.ty = 0 → c.num = 1 → badK F r = false → ∀ w', Below B W w' → (badT V1 S = false → Sg B w' d g b fx nN cv nS S (if keyK F r ∈ ks then ks else ks ++ [keyK F r]) (fun k' => if k' = keyK F r then tlN1 V1 (φ k') else φ k')) → OUT (.returned (.int .i64 (if badT V1 S = true then 11 else 0))) w') := fun h0 h1 h2 w' hb hs => by
    have e : stE q F S r = if badT V1 S = true then 11 else 0 := by unfold stE; rw [← hc, if_neg h0, if_neg (fun h => h h1), h2, if_neg (by decide), hV1]
    have e2 : stK1 q F ks r = (if keyK F r ∈ ks then ks else ks ++ [keyK F r]) := by unfold stK1; rw [← hc, if_pos h1]
    have e3 : stF q F φ r = (fun k' => if k' = keyK F r then tlN1 V1 (φ k') else φ k') := by
      funext k; unfold stF; rw [← hc, ← hV1]
      by_cases hk : k = keyK F r
      · rw [if_pos ⟨h1, hk⟩, if_pos hk]
      · rw [if_neg (fun h => hk h.2), if_neg hk]
    rw [hOUT]; exact ⟨by rw [e], by rw [← hBB]; exact hb, fun h => by
      rw [e2, e3, ← hfx, ← hnN, ← hBB]
      refine hs ?_
      rw [e] at h
      cases hbt : badT V1 S with
      | false => rfl
      | true => rw [hbt] at h; cases h⟩
  rw [← hOUT]
  -- the nodes' values
  obtain ⟨X, hX⟩ : ∃ X, X = W.alloc (.cells r.vals.toArray 39) := ⟨_, rfl⟩
  have hBX : Below W.heap.size W X := by rw [hX]; exact Below.a1 W _
  have hbx : Bk X W.heap.size 39 r.vals := by show X.heap[_]? = _; rw [hX]; exact heap_new _ _
  have hScX := hSc.below hBX
  have hB0X : Below W0.heap.size W0 X.drew := (hB.trans (hBX.mono hB.size)).trans (below_drewN (Below.refl _ X) 1)
  have c0 : X.drew.cell? ⟨d, 0, none⟩ = some (.slice a.pN nN a.cN) := by
    have : X.drew.cell? ⟨d, 0, none⟩ = fx[0]? := hScX.fixed (by decide)
    rw [this, hfx, hnN]; rfl
  have c9 : X.drew.cell? ⟨d, 9, none⟩ = some (.slice (some ⟨g, 0, none⟩) nN cv) := hScX.cell.1
  have lR : ∀ Y : World, Bk Y W.heap.size 39 r.vals → (ldR (.pointer (some ⟨W.heap.size, 0, none⟩))).run Tryz.prog Y = .ok r.val Y := fun Y hY => run_ldR (fun j u hu => by rw [hY.cell, Nat.zero_add]; exact hu)
  have lR0 := lR X.drew hbx
  have D1 : Hid (Calls Tryz.prog 76 #[r.val, .slice a.pN nN a.cN, .slice (some ⟨g, 0, none⟩) nN cv] X.drew fun e w1 => e = .returned (.tuple #[]) ∧ Sc B w1 d g b fx nN cv nS V1 vG gs ∧ Below B W w1 ∧ Bk w1 W.heap.size 39 r.vals ∧ W.heap.size < w1.heap.size) := by
    have hgB : B ≤ g := hSc.lo.2.1
    have hsx := hScX.drew 1
    refine (lookAt_any (L := q.nodes) (V := V) hnN.symm (by have := hE.nb; omega) (hE.n.below hB0X) hE.ah (fun b' o e => ?_) (by have := hE.six; omega) hSc.vn hsx.vals (hE.mon.below hB0X) (hE.mx.below hB0X (by have := hE.six; omega)) hr hE.nd hVo).mono fun e w1 ⟨h1, h2, h3⟩ => ?_
    · have := hE.np b' o e
      omega
    · rw [← hV1] at h2
      have hd := hsx.look (V' := V1) h3 h2 hV1l
      have hgW : g < W.heap.size := hSc.vals.v.lt
      refine ⟨h1, hd, ((hBX.mono hBW).trans (below_drewN (Below.refl _ X) 1)).trans (h3.below (by show B ≤ X.heap.size; have := hBX.size; omega) (fun j hj e => by omega)), hbx.same (h3.block _ (show W.heap.size < X.heap.size by rw [hX]; simp) (by show ¬ W.heap.size = g; omega)), ?_⟩
      have := h3.size
      have h4 : X.drew.heap.size = W.heap.size + 1 := by show X.heap.size = _; rw [hX]; simp
      omega
  -- the condition's cell
  have D2 : Hid (∀ w1 w2, Sc B w1 d g b fx nN cv nS V1 vG gs → Below B W w1 → Bk w1 W.heap.size 39 r.vals → W.heap.size < w1.heap.size → Below w1.heap.size w1 w2 → ∃ Y, (stC (.pointer (some ⟨w2.heap.size, 0, none⟩)) (tru true).val).run Tryz.prog (w2.alloc zc) = .ok () Y ∧ TkS B W d g b fx nN cv nS V1 vG gs r w2.heap.size (tru true) Y ∧ Y.cell? ⟨d, 1, none⟩ = some (.int .i64 q.wh)) := fun w1 w2 h1 h2 h3 h4 h5 => by
    have b1 : Bk (w2.alloc zc) w2.heap.size 45 (kcs [⟨0, 0, ⟨#[]⟩⟩]) := heap_new _ _
    obtain ⟨Y, y1, y2, y3⟩ := b1.stC 0 (by simp) (tru true)
    have hb : Below w1.heap.size w1 Y := (h5.alloc h5.size _).trans (y3.below (by have := h5.size; simp; omega) (fun j hj e => by have := h5.size; omega))
    have hs := h1.below hb
    refine ⟨Y, y1, ⟨hs, h2.trans (hb.mono (by omega)), y2, h3.same (hb.block _ h3.lt), by have := h5.size; omega⟩, ?_⟩
    rw [hs.fixed (by decide), hfx]; rfl
  have D4 : Hid (∀ Y s5, TkS B W d g b fx nN cv nS V1 vG gs r s5 (tru true) Y → ¬ q.wh < 0 → ∃ o : Nat, q.wh = o ∧ o < nN ∧ Y.drew.cell? ⟨d, 9, none⟩ = some (.slice (some ⟨g, 0, none⟩) nN cv) ∧ Y.drew.cell? ⟨d, 1, none⟩ = some (.int .i64 (o : Int)) ∧ (ldC (.pointer (some ⟨g, o * 3, none⟩))).run Tryz.prog Y.drew = .ok c.val Y.drew ∧
      ∃ Y2, (stC (.pointer (some ⟨s5, 0, none⟩)) c.val).run Tryz.prog Y.drew = .ok () Y2 ∧ TkS B W d g b fx nN cv nS V1 vG gs r s5 c Y2 ∧ Y2.cell? ⟨d, 9, none⟩ = some (.slice (some ⟨g, 0, none⟩) nN cv) ∧ Y2.cell? ⟨d, 1, none⟩ = some (.int .i64 (o : Int)) ∧ (ldC (.pointer (some ⟨g, o * 3, none⟩))).run Tryz.prog Y2 = .ok c.val Y2) := fun Y s5 hT hw => by
    have hwl : q.wh < nN := by rcases hE.wh with h | h; exact absurd h hw; omega
    have hof : q.wh.toNat < V1.length := by omega
    have ec : c = V1[q.wh.toNat] := by
      rw [hc]; unfold whC vat
      rw [if_neg hw, ← hV1, List.getD_eq_getElem?_getD, List.getElem?_eq_getElem hof]; rfl
    have eo : ((q.wh.toNat : Nat) : Int) = q.wh := by omega
    have hTd := hT.below hBW (below_drewN (Below.refl _ Y) 1)
    obtain ⟨Y2, y1, y2, y3⟩ := hTd.b5.stC 0 (by simp) c
    have hs5g : s5 ≠ g := by have := hT.h5; have := hSc.vals.v.lt; omega
    have hT2 : TkS B W d g b fx nN cv nS V1 vG gs r s5 c Y2 := by
      have hs := hTd.sc
      have h5 := hT.h5
      have hlt : ∀ i, i < W.heap.size → Y2.heap[i]? = Y.drew.heap[i]? := fun i hi => y3.block i (by have := hTd.b5.lt; omega) (by show ¬ i = s5; omega)
      have hd5 : d ≠ s5 := by have := hSc.blk.lt; omega
      refine ⟨?_, hTd.bel.trans (y3.below (Nat.le_trans hBW hTd.bel.size) (fun j hj e => by omega)), y2, hTd.bx.same (y3.block _ hTd.bx.lt (by show ¬ W.heap.size = s5; omega)), h5⟩
      exact {
        fl := hs.fl
        blk := hs.blk.same (y3.block _ hs.blk.lt hd5)
        vals := hs.vals.same y3.size (y3.block _ hs.vals.v.lt (fun e => hs5g e.symm))
        vn := hs.vn
        row := row_keep hs.row (fun x hx => y3.block x (row_block hs.row hx).2.1 (fun e => by obtain ⟨cur, hcu⟩ := row_at hs.row hx; exact ne_type hcu hTd.b5 (by decide) e))
        mp := hs.mp.same (y3.block _ hs.mp.lt (by have := hSc.mp.lt; show ¬ b = s5; omega))
        tal := fun x hx => (hs.tal x hx).same (y3.block _ (hs.tal x hx).lt (by have := (hSc.tal x hx).lt; show ¬ x.t = s5; omega))
        tn := hs.tn
        nd := hs.nd
        kn := hs.kn
        ok := hs.ok
        lo := hs.lo }
    have hd1 : ∀ Z : World, Sc B Z d g b fx nN cv nS V1 vG gs → Z.cell? ⟨d, 1, none⟩ = some (.int .i64 ((q.wh.toNat : Nat) : Int)) := fun Z hZ => by rw [hZ.fixed (by decide), hfx, eo]; rfl
    have hl : ∀ Z : World, Sc B Z d g b fx nN cv nS V1 vG gs → (ldC (.pointer (some ⟨g, q.wh.toNat * 3, none⟩))).run Tryz.prog Z = .ok c.val Z := fun Z hZ => by rw [ec]; exact hZ.vals.v.ld _ hof
    exact ⟨q.wh.toNat, by omega, by omega, hTd.sc.cell.1, hd1 _ hTd.sc, hl _ hTd.sc, Y2, y1, hT2, hT2.sc.cell.1, hd1 _ hT2.sc, hl _ hT2.sc⟩
  -- the key
  obtain ⟨rv, hrv⟩ : ∃ rv, rv = r.val := ⟨_, rfl⟩
  obtain ⟨lay, hlay⟩ : ∃ v : Value, v = .agg #[.slice pF nF cF, .slice pS nS cS, .slice pP nP cP] := ⟨_, rfl⟩
  obtain ⟨kv, hkv⟩ : ∃ v, v = kV (if badK F r = true then noK else keyK F r) := ⟨_, rfl⟩
  obtain ⟨er, her⟩ : ∃ v : Int, v = (if badK F r = true then 11 else 0) := ⟨_, rfl⟩
  have hklen : (if badK F r = true then noK else keyK F r).length = 14 := by
    split
    · rfl
    · exact (key_ok (by rw [hE.fn]; exact hE.f14) hr).1
  have R9 : Hid (∀ w s5, TkS B W d g b fx nN cv nS V1 vG gs r s5 c w → (ld80 (.pointer (some ⟨d, 6, none⟩))).run Tryz.prog w.drew = .ok lay w.drew ∧ (ldR (.pointer (some ⟨W.heap.size, 0, none⟩))).run Tryz.prog w.drew = .ok rv w.drew ∧
      (Calls Tryz.prog 80 #[lay, rv] w.drew fun e w5 => e = .returned (.tuple #[kv, .int .i64 er]) ∧ (ld80 (.pointer (some ⟨d, 6, none⟩))).run Tryz.prog w5 = .ok lay w5 ∧ (ldR (.pointer (some ⟨W.heap.size, 0, none⟩))).run Tryz.prog w5 = .ok rv w5 ∧
        ((ld80 (.pointer (some ⟨d, 6, none⟩))).run Tryz.prog (w5.alloc (.cells #[.int .i64 0, .int .i64 0, .string ⟨#[]⟩, .int .i64 0, .int .i64 0, .string ⟨#[]⟩, .int .i64 0, .int .i64 0, .string ⟨#[]⟩, .int .i64 0, .int .i64 0, .string ⟨#[]⟩, .int .i64 0, .int .i64 0, .string ⟨#[]⟩, .int .i64 0, .int .i64 0, .string ⟨#[]⟩, .int .i64 0, .int .i64 0, .string ⟨#[]⟩, .int .i64 0, .int .i64 0, .string ⟨#[]⟩, .int .i64 0, .int .i64 0, .string ⟨#[]⟩, .int .i64 0, .int .i64 0, .string ⟨#[]⟩, .int .i64 0, .int .i64 0, .string ⟨#[]⟩, .int .i64 0, .int .i64 0, .string ⟨#[]⟩, .int .i64 0, .int .i64 0, .string ⟨#[]⟩, .int .i64 0, .int .i64 0, .string ⟨#[]⟩] 117)) = .ok lay (w5.alloc (.cells #[.int .i64 0, .int .i64 0, .string ⟨#[]⟩, .int .i64 0, .int .i64 0, .string ⟨#[]⟩, .int .i64 0, .int .i64 0, .string ⟨#[]⟩, .int .i64 0, .int .i64 0, .string ⟨#[]⟩, .int .i64 0, .int .i64 0, .string ⟨#[]⟩, .int .i64 0, .int .i64 0, .string ⟨#[]⟩, .int .i64 0, .int .i64 0, .string ⟨#[]⟩, .int .i64 0, .int .i64 0, .string ⟨#[]⟩, .int .i64 0, .int .i64 0, .string ⟨#[]⟩, .int .i64 0, .int .i64 0, .string ⟨#[]⟩, .int .i64 0, .int .i64 0, .string ⟨#[]⟩, .int .i64 0, .int .i64 0, .string ⟨#[]⟩, .int .i64 0, .int .i64 0, .string ⟨#[]⟩, .int .i64 0, .int .i64 0, .string ⟨#[]⟩] 117)) ∧ (ldR (.pointer (some ⟨W.heap.size, 0, none⟩))).run Tryz.prog (w5.alloc (.cells #[.int .i64 0, .int .i64 0, .string ⟨#[]⟩, .int .i64 0, .int .i64 0, .string ⟨#[]⟩, .int .i64 0, .int .i64 0, .string ⟨#[]⟩, .int .i64 0, .int .i64 0, .string ⟨#[]⟩, .int .i64 0, .int .i64 0, .string ⟨#[]⟩, .int .i64 0, .int .i64 0, .string ⟨#[]⟩, .int .i64 0, .int .i64 0, .string ⟨#[]⟩, .int .i64 0, .int .i64 0, .string ⟨#[]⟩, .int .i64 0, .int .i64 0, .string ⟨#[]⟩, .int .i64 0, .int .i64 0, .string ⟨#[]⟩, .int .i64 0, .int .i64 0, .string ⟨#[]⟩, .int .i64 0, .int .i64 0, .string ⟨#[]⟩, .int .i64 0, .int .i64 0, .string ⟨#[]⟩, .int .i64 0, .int .i64 0, .string ⟨#[]⟩] 117)) = .ok rv (w5.alloc (.cells #[.int .i64 0, .int .i64 0, .string ⟨#[]⟩, .int .i64 0, .int .i64 0, .string ⟨#[]⟩, .int .i64 0, .int .i64 0, .string ⟨#[]⟩, .int .i64 0, .int .i64 0, .string ⟨#[]⟩, .int .i64 0, .int .i64 0, .string ⟨#[]⟩, .int .i64 0, .int .i64 0, .string ⟨#[]⟩, .int .i64 0, .int .i64 0, .string ⟨#[]⟩, .int .i64 0, .int .i64 0, .string ⟨#[]⟩, .int .i64 0, .int .i64 0, .string ⟨#[]⟩, .int .i64 0, .int .i64 0, .string ⟨#[]⟩, .int .i64 0, .int .i64 0, .string ⟨#[]⟩, .int .i64 0, .int .i64 0, .string ⟨#[]⟩, .int .i64 0, .int .i64 0, .string ⟨#[]⟩, .int .i64 0, .int .i64 0, .string ⟨#[]⟩] 117)) ∧
          ∃ Y, (stK (.pointer (some ⟨w5.heap.size, 0, none⟩)) kv).run Tryz.prog (w5.alloc (.cells #[.int .i64 0, .int .i64 0, .string ⟨#[]⟩, .int .i64 0, .int .i64 0, .string ⟨#[]⟩, .int .i64 0, .int .i64 0, .string ⟨#[]⟩, .int .i64 0, .int .i64 0, .string ⟨#[]⟩, .int .i64 0, .int .i64 0, .string ⟨#[]⟩, .int .i64 0, .int .i64 0, .string ⟨#[]⟩, .int .i64 0, .int .i64 0, .string ⟨#[]⟩, .int .i64 0, .int .i64 0, .string ⟨#[]⟩, .int .i64 0, .int .i64 0, .string ⟨#[]⟩, .int .i64 0, .int .i64 0, .string ⟨#[]⟩, .int .i64 0, .int .i64 0, .string ⟨#[]⟩, .int .i64 0, .int .i64 0, .string ⟨#[]⟩, .int .i64 0, .int .i64 0, .string ⟨#[]⟩, .int .i64 0, .int .i64 0, .string ⟨#[]⟩] 117)) = .ok () Y ∧ (ld80 (.pointer (some ⟨d, 6, none⟩))).run Tryz.prog Y = .ok lay Y ∧ (ldR (.pointer (some ⟨W.heap.size, 0, none⟩))).run Tryz.prog Y = .ok rv Y ∧ TkS B W d g b fx nN cv nS V1 vG gs r s5 c Y ∧ (ldK (.pointer (some ⟨w5.heap.size, 0, none⟩))).run Tryz.prog Y = .ok kv Y)) ∧
      ((ld80 (.pointer (some ⟨d, 6, none⟩))).run Tryz.prog (w.drew.alloc (.cells #[.int .i64 0, .int .i64 0, .string ⟨#[]⟩, .int .i64 0, .int .i64 0, .string ⟨#[]⟩, .int .i64 0, .int .i64 0, .string ⟨#[]⟩, .int .i64 0, .int .i64 0, .string ⟨#[]⟩, .int .i64 0, .int .i64 0, .string ⟨#[]⟩, .int .i64 0, .int .i64 0, .string ⟨#[]⟩, .int .i64 0, .int .i64 0, .string ⟨#[]⟩, .int .i64 0, .int .i64 0, .string ⟨#[]⟩, .int .i64 0, .int .i64 0, .string ⟨#[]⟩, .int .i64 0, .int .i64 0, .string ⟨#[]⟩, .int .i64 0, .int .i64 0, .string ⟨#[]⟩, .int .i64 0, .int .i64 0, .string ⟨#[]⟩, .int .i64 0, .int .i64 0, .string ⟨#[]⟩, .int .i64 0, .int .i64 0, .string ⟨#[]⟩] 117)) = .ok lay (w.drew.alloc (.cells #[.int .i64 0, .int .i64 0, .string ⟨#[]⟩, .int .i64 0, .int .i64 0, .string ⟨#[]⟩, .int .i64 0, .int .i64 0, .string ⟨#[]⟩, .int .i64 0, .int .i64 0, .string ⟨#[]⟩, .int .i64 0, .int .i64 0, .string ⟨#[]⟩, .int .i64 0, .int .i64 0, .string ⟨#[]⟩, .int .i64 0, .int .i64 0, .string ⟨#[]⟩, .int .i64 0, .int .i64 0, .string ⟨#[]⟩, .int .i64 0, .int .i64 0, .string ⟨#[]⟩, .int .i64 0, .int .i64 0, .string ⟨#[]⟩, .int .i64 0, .int .i64 0, .string ⟨#[]⟩, .int .i64 0, .int .i64 0, .string ⟨#[]⟩, .int .i64 0, .int .i64 0, .string ⟨#[]⟩, .int .i64 0, .int .i64 0, .string ⟨#[]⟩] 117)) ∧ (ldR (.pointer (some ⟨W.heap.size, 0, none⟩))).run Tryz.prog (w.drew.alloc (.cells #[.int .i64 0, .int .i64 0, .string ⟨#[]⟩, .int .i64 0, .int .i64 0, .string ⟨#[]⟩, .int .i64 0, .int .i64 0, .string ⟨#[]⟩, .int .i64 0, .int .i64 0, .string ⟨#[]⟩, .int .i64 0, .int .i64 0, .string ⟨#[]⟩, .int .i64 0, .int .i64 0, .string ⟨#[]⟩, .int .i64 0, .int .i64 0, .string ⟨#[]⟩, .int .i64 0, .int .i64 0, .string ⟨#[]⟩, .int .i64 0, .int .i64 0, .string ⟨#[]⟩, .int .i64 0, .int .i64 0, .string ⟨#[]⟩, .int .i64 0, .int .i64 0, .string ⟨#[]⟩, .int .i64 0, .int .i64 0, .string ⟨#[]⟩, .int .i64 0, .int .i64 0, .string ⟨#[]⟩, .int .i64 0, .int .i64 0, .string ⟨#[]⟩] 117)) = .ok rv (w.drew.alloc (.cells #[.int .i64 0, .int .i64 0, .string ⟨#[]⟩, .int .i64 0, .int .i64 0, .string ⟨#[]⟩, .int .i64 0, .int .i64 0, .string ⟨#[]⟩, .int .i64 0, .int .i64 0, .string ⟨#[]⟩, .int .i64 0, .int .i64 0, .string ⟨#[]⟩, .int .i64 0, .int .i64 0, .string ⟨#[]⟩, .int .i64 0, .int .i64 0, .string ⟨#[]⟩, .int .i64 0, .int .i64 0, .string ⟨#[]⟩, .int .i64 0, .int .i64 0, .string ⟨#[]⟩, .int .i64 0, .int .i64 0, .string ⟨#[]⟩, .int .i64 0, .int .i64 0, .string ⟨#[]⟩, .int .i64 0, .int .i64 0, .string ⟨#[]⟩, .int .i64 0, .int .i64 0, .string ⟨#[]⟩, .int .i64 0, .int .i64 0, .string ⟨#[]⟩] 117)) ∧
        Calls Tryz.prog 80 #[lay, rv] (w.drew.alloc (.cells #[.int .i64 0, .int .i64 0, .string ⟨#[]⟩, .int .i64 0, .int .i64 0, .string ⟨#[]⟩, .int .i64 0, .int .i64 0, .string ⟨#[]⟩, .int .i64 0, .int .i64 0, .string ⟨#[]⟩, .int .i64 0, .int .i64 0, .string ⟨#[]⟩, .int .i64 0, .int .i64 0, .string ⟨#[]⟩, .int .i64 0, .int .i64 0, .string ⟨#[]⟩, .int .i64 0, .int .i64 0, .string ⟨#[]⟩, .int .i64 0, .int .i64 0, .string ⟨#[]⟩, .int .i64 0, .int .i64 0, .string ⟨#[]⟩, .int .i64 0, .int .i64 0, .string ⟨#[]⟩, .int .i64 0, .int .i64 0, .string ⟨#[]⟩, .int .i64 0, .int .i64 0, .string ⟨#[]⟩, .int .i64 0, .int .i64 0, .string ⟨#[]⟩] 117)) fun e w5 => e = .returned (.tuple #[kv, .int .i64 er]) ∧ (ld80 (.pointer (some ⟨d, 6, none⟩))).run Tryz.prog w5 = .ok lay w5 ∧ (ldR (.pointer (some ⟨W.heap.size, 0, none⟩))).run Tryz.prog w5 = .ok rv w5 ∧
          ∃ Y, (stK (.pointer (some ⟨w.heap.size, 0, none⟩)) kv).run Tryz.prog w5 = .ok () Y ∧ (ld80 (.pointer (some ⟨d, 6, none⟩))).run Tryz.prog Y = .ok lay Y ∧ (ldR (.pointer (some ⟨W.heap.size, 0, none⟩))).run Tryz.prog Y = .ok rv Y ∧ TkS B W d g b fx nN cv nS V1 vG gs r s5 c Y ∧ (ldK (.pointer (some ⟨w.heap.size, 0, none⟩))).run Tryz.prog Y = .ok kv Y)) := fun w s5 hT => by
    have l80 : ∀ {Y s5}, TkS B W d g b fx nN cv nS V1 vG gs r s5 c Y → (ld80 (.pointer (some ⟨d, 6, none⟩))).run Tryz.prog Y = .ok lay Y := fun {Y s5} hY => by
      rw [hlay]
      refine run_ld80 (fun j u hu => ?_)
      have hj : j < 3 := by have := (List.getElem?_eq_some_iff.1 hu).1; simpa using this
      rw [hY.sc.fixed (by omega), hfx]
      unfold fxV
      rw [List.getElem?_append_right (by simp [qC]), show 6 + j - (qC q a).length = j by simp [qC]]
      exact hu
    have lRv : ∀ {Y s5}, TkS B W d g b fx nN cv nS V1 vG gs r s5 c Y → (ldR (.pointer (some ⟨W.heap.size, 0, none⟩))).run Tryz.prog Y = .ok rv Y := fun {Y s5} hY => by rw [hrv]; exact lR Y hY.bx
    have hTd := hT.below hBW (below_drewN (Below.refl _ w) 1)
    have hk9 : ∀ {Y s5}, TkS B W d g b fx nN cv nS V1 vG gs r s5 c Y → Calls Tryz.prog 80 #[lay, rv] Y fun e w5 => e = .returned (.tuple #[kv, .int .i64 er]) ∧ Below Y.heap.size Y w5 := fun {Y s5} hY => by
      have hbY : Below W0.heap.size W0 Y := hB.trans (by rw [← hBB]; exact hY.bel)
      rw [hlay, hrv, hkv, her]
      exact (keyOf_any hE.fn hE.f14 (hE.f.below hbY) _ _ _ _ _ _ r (hE.mon.below hbY) (hE.mx.below hbY (by have := hE.six; omega)) hr.acc (by have := hbY.size; have := hE.six; omega)).mono fun e w5 h => ⟨h.2, h.1⟩
    have hput : ∀ {X : World} {s5 x : Nat}, TkS B W d g b fx nN cv nS V1 vG gs r s5 c X → Bk X x 117 (kcs noK) → x ≠ s5 → W.heap.size < x → ∃ Y, (stK (.pointer (some ⟨x, 0, none⟩)) kv).run Tryz.prog X = .ok () Y ∧ TkS B W d g b fx nN cv nS V1 vG gs r s5 c Y ∧ (ldK (.pointer (some ⟨x, 0, none⟩))).run Tryz.prog Y = .ok kv Y := fun {X s5 x} hX hb hne hlt => by
      rw [hkv]
      obtain ⟨Y, y1, y2, y3⟩ := hb.stK (k := noK) (k' := if badK F r = true then noK else keyK F r) rfl hklen
      exact ⟨Y, y1, hX.fr hBW y3 hne hlt (.inr ⟨_, 117, hb, by decide, by decide, by decide, by have := hSc.vals.v.lt; omega⟩), y2.ldK hklen⟩
    refine ⟨l80 hTd, lRv hTd, (hk9 hTd).mono fun e w5 ⟨he, hb⟩ => ?_, ?_⟩
    · have hT5 := hTd.below hBW hb
      have hTa := hT5.below hBW (Below.a1 w5 (.cells #[.int .i64 0, .int .i64 0, .string ⟨#[]⟩, .int .i64 0, .int .i64 0, .string ⟨#[]⟩, .int .i64 0, .int .i64 0, .string ⟨#[]⟩, .int .i64 0, .int .i64 0, .string ⟨#[]⟩, .int .i64 0, .int .i64 0, .string ⟨#[]⟩, .int .i64 0, .int .i64 0, .string ⟨#[]⟩, .int .i64 0, .int .i64 0, .string ⟨#[]⟩, .int .i64 0, .int .i64 0, .string ⟨#[]⟩, .int .i64 0, .int .i64 0, .string ⟨#[]⟩, .int .i64 0, .int .i64 0, .string ⟨#[]⟩, .int .i64 0, .int .i64 0, .string ⟨#[]⟩, .int .i64 0, .int .i64 0, .string ⟨#[]⟩, .int .i64 0, .int .i64 0, .string ⟨#[]⟩, .int .i64 0, .int .i64 0, .string ⟨#[]⟩] 117))
      have hba : Bk (w5.alloc (.cells #[.int .i64 0, .int .i64 0, .string ⟨#[]⟩, .int .i64 0, .int .i64 0, .string ⟨#[]⟩, .int .i64 0, .int .i64 0, .string ⟨#[]⟩, .int .i64 0, .int .i64 0, .string ⟨#[]⟩, .int .i64 0, .int .i64 0, .string ⟨#[]⟩, .int .i64 0, .int .i64 0, .string ⟨#[]⟩, .int .i64 0, .int .i64 0, .string ⟨#[]⟩, .int .i64 0, .int .i64 0, .string ⟨#[]⟩, .int .i64 0, .int .i64 0, .string ⟨#[]⟩, .int .i64 0, .int .i64 0, .string ⟨#[]⟩, .int .i64 0, .int .i64 0, .string ⟨#[]⟩, .int .i64 0, .int .i64 0, .string ⟨#[]⟩, .int .i64 0, .int .i64 0, .string ⟨#[]⟩, .int .i64 0, .int .i64 0, .string ⟨#[]⟩] 117)) w5.heap.size 117 (kcs noK) := heap_new _ _
      obtain ⟨Y, y1, y2, y3⟩ := hput hTa hba (by have := hT5.b5.lt; omega) (hT5.bx.lt)
      exact ⟨he, l80 hT5, lRv hT5, l80 hTa, lRv hTa, Y, y1, l80 y2, lRv y2, y2, y3⟩
    · have hTa := hTd.below hBW (Below.a1 w.drew (.cells #[.int .i64 0, .int .i64 0, .string ⟨#[]⟩, .int .i64 0, .int .i64 0, .string ⟨#[]⟩, .int .i64 0, .int .i64 0, .string ⟨#[]⟩, .int .i64 0, .int .i64 0, .string ⟨#[]⟩, .int .i64 0, .int .i64 0, .string ⟨#[]⟩, .int .i64 0, .int .i64 0, .string ⟨#[]⟩, .int .i64 0, .int .i64 0, .string ⟨#[]⟩, .int .i64 0, .int .i64 0, .string ⟨#[]⟩, .int .i64 0, .int .i64 0, .string ⟨#[]⟩, .int .i64 0, .int .i64 0, .string ⟨#[]⟩, .int .i64 0, .int .i64 0, .string ⟨#[]⟩, .int .i64 0, .int .i64 0, .string ⟨#[]⟩, .int .i64 0, .int .i64 0, .string ⟨#[]⟩, .int .i64 0, .int .i64 0, .string ⟨#[]⟩] 117))
      have hba : Bk (w.drew.alloc (.cells #[.int .i64 0, .int .i64 0, .string ⟨#[]⟩, .int .i64 0, .int .i64 0, .string ⟨#[]⟩, .int .i64 0, .int .i64 0, .string ⟨#[]⟩, .int .i64 0, .int .i64 0, .string ⟨#[]⟩, .int .i64 0, .int .i64 0, .string ⟨#[]⟩, .int .i64 0, .int .i64 0, .string ⟨#[]⟩, .int .i64 0, .int .i64 0, .string ⟨#[]⟩, .int .i64 0, .int .i64 0, .string ⟨#[]⟩, .int .i64 0, .int .i64 0, .string ⟨#[]⟩, .int .i64 0, .int .i64 0, .string ⟨#[]⟩, .int .i64 0, .int .i64 0, .string ⟨#[]⟩, .int .i64 0, .int .i64 0, .string ⟨#[]⟩, .int .i64 0, .int .i64 0, .string ⟨#[]⟩, .int .i64 0, .int .i64 0, .string ⟨#[]⟩] 117)) w.heap.size 117 (kcs noK) := heap_new w.drew _
      refine ⟨l80 hTa, lRv hTa, (hk9 hTa).mono fun e w5 ⟨he, hb⟩ => ?_⟩
      have hT5 := hTa.below hBW hb
      obtain ⟨Y, y1, y2, y3⟩ := hput hT5 (hba.same (hb.block _ hba.lt)) (by have := hT.b5.lt; omega) (hT.bx.lt)
      exact ⟨he, l80 hT5, lRv hT5, Y, y1, l80 y2, lRv y2, y2, y3⟩
  have EB1 : Hid (badK F r = true → er = 11) := fun h => by rw [her, if_pos h]
  have EB0 : Hid (badK F r = false → er = 0 ∧ kv = kV (keyK F r)) := fun h => ⟨by rw [her, h]; rfl, by rw [hkv, h]; rfl⟩
  have T9 : Hid (∀ Y s5, TkS B W d g b fx nN cv nS V1 vG gs r s5 c Y → badK F r = false → Calls Tryz.prog 49 #[.pointer (some ⟨d, 0, none⟩), kv] Y fun e w1 => ∃ t, e = .returned (.slice (some ⟨t, 0, none⟩) nS nS) ∧ Below B Y w1 ∧
      Calls Tryz.prog 81 #[.pointer (some ⟨d, 0, none⟩), .slice (some ⟨t, 0, none⟩) nS nS] w1 fun e w2 => e = .returned (.int .i64 (if badT V1 S = true then 11 else 0)) ∧ Below B Y w2 ∧ (badT V1 S = false → Sg B w2 d g b fx nN cv nS S (if keyK F r ∈ ks then ks else ks ++ [keyK F r]) (fun k' => if k' = keyK F r then tlN1 V1 (φ k') else φ k'))) := fun Y s5 hY hbk => by
    rw [(unhide EB0 hbk).2, hBB, hfx, hnN]
    have hbY : Below W0.heap.size W0 Y := hB.trans (by rw [← hBB]; exact hY.bel)
    exact told_any hE hbY (by rw [← hBB, ← hfx, ← hnN]; exact hY.sc) hV1o hks htl hφ hkl (key_ok (by rw [hE.fn]; exact hE.f14) hr)
  have CW : Hid (q.wh < 0 → c = tru true) := fun hw => by rw [hc]; unfold whC; rw [if_pos hw]
  have d77 := hide (truthOf_any true)
  have d78 := hide (fun (c : Cl) => isOver_any c.ty c.num c.tx)
  have d79 := hide (fun (c : Cl) => isTrue_any c.ty c.num c.tx)
  have HX := hide hX
  rw [← hrv] at D1 lR0
  obtain ⟨i0, i1, i2, i3, s4, acc, amt, s7, s8⟩ := r
  have hrv' : rv = .agg #[.int .i64 i0, .int .i64 i1, .int .i64 i2, .int .i64 i3, .string s4, .string acc, .int .i64 amt, .string s7, .string s8] := hrv
  have HX : Hid (X = W.alloc (.cells #[.int .i64 i0, .int .i64 i1, .int .i64 i2, .int .i64 i3, .string s4, .string acc, .int .i64 amt, .string s7, .string s8] 39)) := HX
  show Calls Tryz.prog 47 #[_, .agg #[.int .i64 i0, .int .i64 i1, .int .i64 i2, .int .i64 i3, .string s4, .string acc, .int .i64 amt, .string s7, .string s8]] W _
  obtain ⟨rr, hrr⟩ : ∃ rr : Ro, rr = ⟨i0, i1, i2, i3, s4, acc, amt, s7, s8⟩ := ⟨_, rfl⟩
  rw [← hrr] at O3 O4 D1 D2 D4 R9 EB1 EB0 T9
  rw [← hrv']
  have HRV := hide hrv'
  clear hrv hrv' hrr hlay hkv her hc hV1 hfx hnN hBB hE hB h hφ hkl hr hSc hVo hks htl hV1l hV1o hOUT hX hBX hbx hScX hB0X lR hklen
  rw [unhide HRV]
  go_enter Tryz.func47, Tryz.ntmps47
  go_upto_region 1 with fail
  rw [← unhide HX]
  refine wp_region_last (n := 10) (S := fun W' => (ldR (.pointer (some ⟨W.heap.size, 0, none⟩))).run Tryz.prog W' = .ok rv W' ∧ W'.cell? ⟨d, 0, none⟩ = some (.slice a.pN nN a.cN) ∧ W'.cell? ⟨d, 9, none⟩ = some (.slice (some ⟨g, 0, none⟩) nN cv)) (by kernel_rfl) ⟨lR0, c0, c9⟩ (fun hHeld => ?_)
  refine tkS 0 ?_; refine tkW 1 ?_; refine tkW 2 ?_; refine tkW 3 ?_; refine tkW 4 ?_; refine tkS 5 ?_; refine tkW 6 ?_; refine tkW 7 ?_; refine tkW 8 ?_; refine tkS 9 ?_
  refine wpAnyL_past (i := 10) (by kernel_rfl) rfl (by kernel_rfl) (fun KK hK => ?_)
  go_simp
  go_wp2_with fail
  refine (unhide D1).mono ?_
  rintro e w1 ⟨rfl, h1, h2, h3, h4⟩
  have D2 := hide (unhide D2 w1 · h1 h2 h3 h4)
  clear h1 h2 h3 h4 D1
  go_wp2_with fail
  refine hK.out _ _ ?_
  clear hK KK hHeld lR0 c0 c9
  refine wpAnyL_done (by kernel_rfl) ?_
  go_wp2_with fail
  refine (unhide d77 _).mono ?_
  rintro e w2 ⟨rfl, hb⟩
  obtain ⟨Y, y1, hT, c1⟩ := unhide D2 w2 hb
  have HT := hide hT
  clear hb hT D2
  by_cases hw : q.wh < 0
  · have HTK : Hid (TkS B W d g b fx nN cv nS V1 vG gs rr w2.heap.size c Y) := by rw [unhide CW hw]; exact HT
    have hw' : ¬ q.wh ≥ 0 := by omega
    clear HT D4 CW hw
    have l5 : (ldC (.pointer (some ⟨w2.heap.size, 0, none⟩))).run Tryz.prog Y = .ok c.val Y := (unhide HTK).b5.ldC 0 (by simp)
    go_wp2_with fail
    refine (unhide d78 c _).mono ?_
    rintro e w3 ⟨rfl, hb⟩
    have HTK3 := hide ((unhide HTK).below hBW hb)
    clear hb l5 HTK
    by_cases h0 : c.ty = 0
    · have HO := hide (unhide O1 h0 _ (unhide HTK3).bel)
      rw [beqT h0]
      clear h0
      go_wp2_with fail
      have hE := unhide HO
      exact hE
    · have HC0 := hide h0
      rw [beqF h0]
      clear h0
      have l6 : (ldC (.pointer (some ⟨w2.heap.size, 0, none⟩))).run Tryz.prog w3 = .ok c.val w3 := (unhide HTK3).b5.ldC 0 (by simp)
      go_wp2_with fail
      refine (unhide d79 c _).mono ?_
      rintro e w4 ⟨rfl, hb⟩
      have HTK4 := hide ((unhide HTK3).below hBW hb)
      clear hb l6 HTK3
      by_cases h1 : c.num = 1
      · have HC1 := hide h1
        rw [beqT h1]
        clear h1
        go_upto_region 9 with fail
        obtain ⟨f1, f2, f3, f4⟩ := unhide R9 _ _ (unhide HTK4)
        have F3 := hide f3
        have F4 := hide f4
        clear f3 f4
        refine wp_region_last (n := 12) (S := fun W' => (ld80 (.pointer (some ⟨d, 6, none⟩))).run Tryz.prog W' = .ok lay W' ∧ (ldR (.pointer (some ⟨W.heap.size, 0, none⟩))).run Tryz.prog W' = .ok rv W') (by kernel_rfl) ⟨f1, f2⟩ (fun hHeld => ?_)
        refine tkW 0 ?_; refine tkW 1 ?_; refine tkW 2 ?_; refine tkN 3 ?_; refine tkN 4 ?_
        refine wpAnyL_two (i := 5) (j := 9) (by kernel_rfl) rfl rfl (fun KK hK => ?_) (fun KK hK => ?_)
        · -- the key first, its variable behind
          go_simp
          go_wp2_with fail
          refine (unhide F3).mono ?_
          rintro e w5 ⟨rfl, s5a, s5b, hrest⟩
          have HR := hide hrest
          clear hrest F3 F4
          go_wp2_with fail
          refine hK.out _ _ ⟨s5a, s5b⟩ (fun hHeld => ?_)
          clear hK KK
          refine tkW 6 ?_; refine tkW 7 ?_; refine tkW 8 ?_
          refine wpAnyL_one (i := 9) (by kernel_rfl) rfl (fun KK hK => ?_)
          obtain ⟨s6a, s6b, Y, y1, s7a, s7b, y2, y3⟩ := unhide HR
          have HYS := hide y2
          have HYB := hide y2.bel
          have HY3 := hide y3
          have HY1 := hide y1
          have HS7 := hide (show _ ∧ _ from ⟨s7a, s7b⟩)
          clear y2 y1 y3 s7a s7b HR
          go_simp
          refine hK.out _ _ ⟨s6a, s6b⟩ (fun hHeld => ?_)
          clear hK KK
          refine wpAnyL_one (i := 10) (by kernel_rfl) rfl (fun KK hK => ?_)
          have y1 := unhide HY1
          go_simp
          refine hK.out _ _ (unhide HS7) (fun hHeld => ?_)
          clear hK KK y1 HY1 s6a s6b
          refine tkW 11 ?_
          refine wpAnyL_done (by kernel_rfl) ?_
          have lK := unhide HY3
          clear HS7 hHeld
          go_upto_region 10 with fail
          by_cases hbk : badK F rr = true
          · have eEr := unhide EB1 hbk
            subst eEr
            have HO := hide (unhide O3 (unhide HC0) (unhide HC1) hbk _ (unhide HYB))
            clear hbk
            go_wp2_with fail
            have hE := unhide HO
            exact hE
          · have hbk' : badK F rr = false := by simpa using hbk
            obtain ⟨eEr, eK⟩ := unhide EB0 hbk'
            subst eEr
            have D9 := hide (unhide T9 _ _ (unhide HYS) hbk')
            have HO4 := hide (unhide O4 (unhide HC0) (unhide HC1) hbk')
            clear hbk hbk' eK
            go_wp2_with fail
            refine (unhide D9).mono ?_
            rintro e w6 ⟨t, rfl, hb6, hd6⟩
            have D6 := hide hd6
            clear hb6 hd6
            go_wp2_with fail
            refine (unhide D6).mono ?_
            rintro e w7 ⟨rfl, hb7, hs7⟩
            have HO5 := hide (unhide HO4 _ ((unhide HYB).trans hb7) hs7)
            obtain ⟨ev, hev⟩ : ∃ v : Int, v = (if badT V1 S = true then 11 else 0) := ⟨_, rfl⟩
            rw [← hev] at HO5 ⊢
            clear hev hb7 hs7 D6
            go_wp2_with fail
            have hE := unhide HO5
            exact hE
        · -- the variable first
          go_simp
          obtain ⟨s6a, s6b, f5⟩ := unhide F4
          have F5 := hide f5
          clear f5 F3 F4
          refine hK.out _ _ ⟨s6a, s6b⟩ (fun hHeld => ?_)
          clear hK KK
          refine wpAnyL_one (i := 5) (by kernel_rfl) rfl (fun KK hK => ?_)
          go_simp
          go_wp2_with fail
          refine (unhide F5).mono ?_
          rintro e w5 ⟨rfl, s5a, s5b, hrest⟩
          have HR := hide hrest
          clear hrest F5
          go_wp2_with fail
          refine hK.out _ _ ⟨s5a, s5b⟩ (fun hHeld => ?_)
          clear hK KK s6a s6b
          refine tkW 6 ?_; refine tkW 7 ?_; refine tkW 8 ?_
          obtain ⟨Y, y1, s7a, s7b, y2, y3⟩ := unhide HR
          have HYS := hide y2
          have HYB := hide y2.bel
          have HY3 := hide y3
          have HS7 := hide (show _ ∧ _ from ⟨s7a, s7b⟩)
          clear y2 y3 s7a s7b HR
          refine wpAnyL_one (i := 10) (by kernel_rfl) rfl (fun KK hK => ?_)
          go_simp
          refine hK.out _ _ (unhide HS7) (fun hHeld => ?_)
          clear hK KK y1
          refine tkW 11 ?_
          refine wpAnyL_done (by kernel_rfl) ?_
          have lK := unhide HY3
          clear HS7 hHeld
          go_upto_region 10 with fail
          by_cases hbk : badK F rr = true
          · have eEr := unhide EB1 hbk
            subst eEr
            have HO := hide (unhide O3 (unhide HC0) (unhide HC1) hbk _ (unhide HYB))
            clear hbk
            go_wp2_with fail
            have hE := unhide HO
            exact hE
          · have hbk' : badK F rr = false := by simpa using hbk
            obtain ⟨eEr, eK⟩ := unhide EB0 hbk'
            subst eEr
            have D9 := hide (unhide T9 _ _ (unhide HYS) hbk')
            have HO4 := hide (unhide O4 (unhide HC0) (unhide HC1) hbk')
            clear hbk hbk' eK
            go_wp2_with fail
            refine (unhide D9).mono ?_
            rintro e w6 ⟨t, rfl, hb6, hd6⟩
            have D6 := hide hd6
            clear hb6 hd6
            go_wp2_with fail
            refine (unhide D6).mono ?_
            rintro e w7 ⟨rfl, hb7, hs7⟩
            have HO5 := hide (unhide HO4 _ ((unhide HYB).trans hb7) hs7)
            obtain ⟨ev, hev⟩ : ∃ v : Int, v = (if badT V1 S = true then 11 else 0) := ⟨_, rfl⟩
            rw [← hev] at HO5 ⊢
            clear hev hb7 hs7 D6
            go_wp2_with fail
            have hE := unhide HO5
            exact hE
      · have HO := hide (unhide O2 (unhide HC0) h1 _ (unhide HTK4).bel (unhide HTK4).sc)
        rw [beqF h1]
        clear h1
        go_wp2_with fail
        have hE := unhide HO
        exact hE
  · obtain ⟨o, eo, hon, p0, p1, p2, Y2, p3, hT2, p4, p5, p6⟩ := unhide D4 Y _ (unhide HT) (by omega)
    have hw' : q.wh ≥ 0 := by omega
    have HTK := hide hT2
    have P4 := hide p4; have P5 := hide p5; have P6 := hide p6
    have hon' : (o : Int) < (nN : Int) := by omega
    have ho0 : ¬ (o : Int) < 0 := by omega
    clear hT2 p4 p5 p6 D4 HT CW hw eo
    go_upto_region 4 with fail
    refine wp_region_last (n := 12) (S := fun W' => W'.cell? ⟨d, 9, none⟩ = some (.slice (some ⟨g, 0, none⟩) nN cv) ∧ W'.cell? ⟨d, 1, none⟩ = some (.int .i64 (o : Int)) ∧ (ldC (.pointer (some ⟨g, o * 3, none⟩))).run Tryz.prog W' = .ok c.val W') (by kernel_rfl) ⟨p0, p1, p2⟩ (fun hHeld => ?_)
    refine tkW 0 ?_; refine tkW 1 ?_; refine tkW 2 ?_; refine tkN 3 ?_; refine tkW 4 ?_; refine tkW 5 ?_; refine tkW 6 ?_; refine tkW 7 ?_; refine tkN 8 ?_; refine tkW 9 ?_; refine tkN 10 ?_
    refine wpAnyL_one (i := 11) (by kernel_rfl) rfl (fun KK hK => ?_)
    go_simp
    refine hK.out _ _ ⟨unhide P4, unhide P5, unhide P6⟩ (fun hHeld => ?_)
    clear hK KK
    refine wpAnyL_done (by kernel_rfl) ?_
    clear p0 p1 p2 p3 P4 P5 P6
    have l5 : (ldC (.pointer (some ⟨w2.heap.size, 0, none⟩))).run Tryz.prog Y2 = .ok c.val Y2 := (unhide HTK).b5.ldC 0 (by simp)
    go_wp2_with fail
    refine (unhide d78 c _).mono ?_
    rintro e w3 ⟨rfl, hb⟩
    have HTK3 := hide ((unhide HTK).below hBW hb)
    clear hb l5 HTK
    by_cases h0 : c.ty = 0
    · have HO := hide (unhide O1 h0 _ (unhide HTK3).bel)
      rw [beqT h0]
      clear h0
      go_wp2_with fail
      have hE := unhide HO
      exact hE
    · have HC0 := hide h0
      rw [beqF h0]
      clear h0
      have l6 : (ldC (.pointer (some ⟨w2.heap.size, 0, none⟩))).run Tryz.prog w3 = .ok c.val w3 := (unhide HTK3).b5.ldC 0 (by simp)
      go_wp2_with fail
      refine (unhide d79 c _).mono ?_
      rintro e w4 ⟨rfl, hb⟩
      have HTK4 := hide ((unhide HTK3).below hBW hb)
      clear hb l6 HTK3
      by_cases h1 : c.num = 1
      · have HC1 := hide h1
        rw [beqT h1]
        clear h1
        go_upto_region 9 with fail
        obtain ⟨f1, f2, f3, f4⟩ := unhide R9 _ _ (unhide HTK4)
        have F3 := hide f3
        have F4 := hide f4
        clear f3 f4
        refine wp_region_last (n := 12) (S := fun W' => (ld80 (.pointer (some ⟨d, 6, none⟩))).run Tryz.prog W' = .ok lay W' ∧ (ldR (.pointer (some ⟨W.heap.size, 0, none⟩))).run Tryz.prog W' = .ok rv W') (by kernel_rfl) ⟨f1, f2⟩ (fun hHeld => ?_)
        refine tkW 0 ?_; refine tkW 1 ?_; refine tkW 2 ?_; refine tkN 3 ?_; refine tkN 4 ?_
        refine wpAnyL_two (i := 5) (j := 9) (by kernel_rfl) rfl rfl (fun KK hK => ?_) (fun KK hK => ?_)
        · -- the key first, its variable behind
          go_simp
          go_wp2_with fail
          refine (unhide F3).mono ?_
          rintro e w5 ⟨rfl, s5a, s5b, hrest⟩
          have HR := hide hrest
          clear hrest F3 F4
          go_wp2_with fail
          refine hK.out _ _ ⟨s5a, s5b⟩ (fun hHeld => ?_)
          clear hK KK
          refine tkW 6 ?_; refine tkW 7 ?_; refine tkW 8 ?_
          refine wpAnyL_one (i := 9) (by kernel_rfl) rfl (fun KK hK => ?_)
          obtain ⟨s6a, s6b, Y, y1, s7a, s7b, y2, y3⟩ := unhide HR
          have HYS := hide y2
          have HYB := hide y2.bel
          have HY3 := hide y3
          have HY1 := hide y1
          have HS7 := hide (show _ ∧ _ from ⟨s7a, s7b⟩)
          clear y2 y1 y3 s7a s7b HR
          go_simp
          refine hK.out _ _ ⟨s6a, s6b⟩ (fun hHeld => ?_)
          clear hK KK
          refine wpAnyL_one (i := 10) (by kernel_rfl) rfl (fun KK hK => ?_)
          have y1 := unhide HY1
          go_simp
          refine hK.out _ _ (unhide HS7) (fun hHeld => ?_)
          clear hK KK y1 HY1 s6a s6b
          refine tkW 11 ?_
          refine wpAnyL_done (by kernel_rfl) ?_
          have lK := unhide HY3
          clear HS7 hHeld
          go_upto_region 10 with fail
          by_cases hbk : badK F rr = true
          · have eEr := unhide EB1 hbk
            subst eEr
            have HO := hide (unhide O3 (unhide HC0) (unhide HC1) hbk _ (unhide HYB))
            clear hbk
            go_wp2_with fail
            have hE := unhide HO
            exact hE
          · have hbk' : badK F rr = false := by simpa using hbk
            obtain ⟨eEr, eK⟩ := unhide EB0 hbk'
            subst eEr
            have D9 := hide (unhide T9 _ _ (unhide HYS) hbk')
            have HO4 := hide (unhide O4 (unhide HC0) (unhide HC1) hbk')
            clear hbk hbk' eK
            go_wp2_with fail
            refine (unhide D9).mono ?_
            rintro e w6 ⟨t, rfl, hb6, hd6⟩
            have D6 := hide hd6
            clear hb6 hd6
            go_wp2_with fail
            refine (unhide D6).mono ?_
            rintro e w7 ⟨rfl, hb7, hs7⟩
            have HO5 := hide (unhide HO4 _ ((unhide HYB).trans hb7) hs7)
            obtain ⟨ev, hev⟩ : ∃ v : Int, v = (if badT V1 S = true then 11 else 0) := ⟨_, rfl⟩
            rw [← hev] at HO5 ⊢
            clear hev hb7 hs7 D6
            go_wp2_with fail
            have hE := unhide HO5
            exact hE
        · -- the variable first
          go_simp
          obtain ⟨s6a, s6b, f5⟩ := unhide F4
          have F5 := hide f5
          clear f5 F3 F4
          refine hK.out _ _ ⟨s6a, s6b⟩ (fun hHeld => ?_)
          clear hK KK
          refine wpAnyL_one (i := 5) (by kernel_rfl) rfl (fun KK hK => ?_)
          go_simp
          go_wp2_with fail
          refine (unhide F5).mono ?_
          rintro e w5 ⟨rfl, s5a, s5b, hrest⟩
          have HR := hide hrest
          clear hrest F5
          go_wp2_with fail
          refine hK.out _ _ ⟨s5a, s5b⟩ (fun hHeld => ?_)
          clear hK KK s6a s6b
          refine tkW 6 ?_; refine tkW 7 ?_; refine tkW 8 ?_
          obtain ⟨Y, y1, s7a, s7b, y2, y3⟩ := unhide HR
          have HYS := hide y2
          have HYB := hide y2.bel
          have HY3 := hide y3
          have HS7 := hide (show _ ∧ _ from ⟨s7a, s7b⟩)
          clear y2 y3 s7a s7b HR
          refine wpAnyL_one (i := 10) (by kernel_rfl) rfl (fun KK hK => ?_)
          go_simp
          refine hK.out _ _ (unhide HS7) (fun hHeld => ?_)
          clear hK KK y1
          refine tkW 11 ?_
          refine wpAnyL_done (by kernel_rfl) ?_
          have lK := unhide HY3
          clear HS7 hHeld
          go_upto_region 10 with fail
          by_cases hbk : badK F rr = true
          · have eEr := unhide EB1 hbk
            subst eEr
            have HO := hide (unhide O3 (unhide HC0) (unhide HC1) hbk _ (unhide HYB))
            clear hbk
            go_wp2_with fail
            have hE := unhide HO
            exact hE
          · have hbk' : badK F rr = false := by simpa using hbk
            obtain ⟨eEr, eK⟩ := unhide EB0 hbk'
            subst eEr
            have D9 := hide (unhide T9 _ _ (unhide HYS) hbk')
            have HO4 := hide (unhide O4 (unhide HC0) (unhide HC1) hbk')
            clear hbk hbk' eK
            go_wp2_with fail
            refine (unhide D9).mono ?_
            rintro e w6 ⟨t, rfl, hb6, hd6⟩
            have D6 := hide hd6
            clear hb6 hd6
            go_wp2_with fail
            refine (unhide D6).mono ?_
            rintro e w7 ⟨rfl, hb7, hs7⟩
            have HO5 := hide (unhide HO4 _ ((unhide HYB).trans hb7) hs7)
            obtain ⟨ev, hev⟩ : ∃ v : Int, v = (if badT V1 S = true then 11 else 0) := ⟨_, rfl⟩
            rw [← hev] at HO5 ⊢
            clear hev hb7 hs7 D6
            go_wp2_with fail
            have hE := unhide HO5
            exact hE
      · have HO := hide (unhide O2 (unhide HC0) h1 _ (unhide HTK4).bel (unhide HTK4).sc)
        rw [beqF h1]
        clear h1
        go_wp2_with fail
        have hE := unhide HO
        exact hE
end
end Go.Proofs.YtbenciieenbmeaaGreatDoor
