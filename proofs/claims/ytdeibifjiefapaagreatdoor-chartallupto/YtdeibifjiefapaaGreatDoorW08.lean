import Derived.Test.YtdeibifjiefapaaGreatDoorW07
/- chart: below (24) and its iterator (39), which calls itself. -/
namespace Go.Proofs.YtdeibifjiefapaaGreatDoor
open Go Go.Shelf Go.ChangeShapes Go.WideShapes Go.ChangeAt Go.RowKit Go.Maps
set_option linter.unusedVariables false
attribute [local go_sem] Oper.semAt_some
/-- the blocks of a tree, and of the iterator over it -/
def gdT : Obj → Bool
  | .loop _ => true
  | .deferred _ => true
  | .cells _ t _ => t == 68 || t == 70 || t == 98 || t == 177
  | _ => false
theorem gdT_lpy (o : Obj) (h : lpy o = true) : gdT o = true := by
  cases o <;> simp_all [lpy, gdT]
theorem ChAt.keepG {W W' : World} {d : Nat} {S : Nat → Prop} {L : List Ac} {g : Gh} (h : ChAt W d S L g) (hk : KeepsG gdT W W') : ChAt W' d S L g :=
  ⟨h.top, hk.same _ _ h.tn rfl, fun a ha => hk.same _ _ (h.node a ha) rfl, fun x hx => by
    rcases h.row x hx with h1 | ⟨q, h1, h2, h3⟩
    · exact .inl h1
    · exact .inr ⟨q, h1, hk.same _ _ h2 rfl, h3⟩, h.sd, h.sn, h.sq⟩
theorem ownL_keepsG {β : Type} {gd : Obj → Bool} {B : Nat} {w : World} (hB : w.heap.size ≤ B) : OwnL B (fun (_ : β) W => KeepsG gd w W) := fun s W W' row hs hg hr =>
  ⟨Nat.le_trans hs.size hg.size, fun k o hk ho => by
    have h1 := hs.same k o hk ho
    refine (hg.block k (Array.getElem?_eq_some_iff.1 h1).1 (fun e => ?_)).trans h1
    have h2 := (hr k e.symm).1
    have h3 := (Array.getElem?_eq_some_iff.1 hk).1
    omega⟩
theorem below_any (b : Nat) (w : World) : Calls Tryz.prog 90 #[ptr b] w fun e w' => e = .returned (.func (.func 166) #[] #[ptr w.heap.size]) ∧ w' = w.alloc (.cells #[ptr b] 98) := by
  go_enter Tryz.func90, Tryz.ntmps90
  go_wp2_with fail
  go_ret
  exact ⟨rfl, rfl⟩
theorem enters39 : ∀ args w, (callFunc 166 args).run Tryz.prog w = .ok (.enter 166 args) w := by
  exact enters_of Tryz.func166 (by kernel_rfl) rfl
/-- how deep a name lies below the top -/
def dep (x : Nm) : Nat := if x = [] then 0 else (anc x).length
theorem kid_dep {L : List Ac} (hG : Good L) {x y : Nm} (hy : y ∈ kids L x) : dep y = dep x + 1 ∧ dep y ≤ 6 := by
  obtain ⟨⟨a, ha, rfl⟩, hp⟩ := mem_kids.1 hy
  have hn := hG.name a ha
  have h0 := name_ne hn
  have e1 : dep a.nm = (anc a.nm).length := by rw [dep, if_neg h0]
  refine ⟨?_, by rw [e1]; exact anc_len hn⟩
  rw [e1]
  rcases ups_cases a.nm with e | ⟨p, e, _, hq⟩
  · rw [par, e] at hp
    have hx : x = [] := hp.symm
    rw [anc_root e, hx]
    rfl
  · rw [par, e] at hp
    have hx : p = x := hp
    have hx0 : x ≠ [] := by rw [← hx]; exact name_ne (hq hn)
    rw [anc_step e, hx, dep, if_neg hx0]
    rfl
theorem kids_none {L : List Ac} (hG : Good L) {x : Nm} (h : 6 ≤ dep x) : kids L x = [] := by
  cases e : kids L x with
  | nil => rfl
  | cons y t =>
    have := kid_dep hG (y := y) (x := x) (by rw [e]; exact List.mem_cons_self ..)
    omega
def encN (g : Gh) (y : Nm) : Array Value := #[ptr (g.nd y)]
/-- what has come before the j-th of those right below -/
def upTo (L : List Ac) (k : Nat) (x : Nm) (j : Nat) : List Nm := ((kids L x).take j).flatMap fun y => y :: desc L k y
theorem upTo_succ {L : List Ac} {k : Nat} {x : Nm} {j : Nat} (hj : j < (kids L x).length) : upTo L k x (j + 1) = upTo L k x j ++ (kids L x)[j] :: desc L k (kids L x)[j] := by
  rw [upTo, upTo, ← List.take_append_getElem hj, List.flatMap_append]
  simp
theorem upTo_all (L : List Ac) (k : Nat) (x : Nm) {j : Nat} (hj : (kids L x).length ≤ j) : upTo L k x j = desc L (k + 1) x := by
  rw [upTo, List.take_of_length_le hj, desc]
theorem upTo_pre {L : List Ac} {k : Nat} {x : Nm} (j : Nat) : upTo L k x j <+: desc L (k + 1) x := by
  rw [desc, upTo]
  obtain ⟨t, ht⟩ := List.take_prefix j (kids L x)
  refine ⟨t.flatMap fun y => y :: desc L k y, ?_⟩
  rw [← List.flatMap_append, ht]
/-- where the iterator stands between two of those right below -/
structure Bl (W0 : World) (J : List Nm → World → Prop) (xs : List Nm) (B : Nat) (ds : List Nat) (W : World) : Prop where
  j : J xs W
  kp : KeepsG gdT W0 W
  nd : ds.Nodup
  lp : ∀ D ∈ ds, B ≤ D ∧ W.heap[D]? = some (.deferred (some []))

theorem ownL_keepsF {β : Type} {gd : Obj → Bool} {B C : Nat} {w : World} (hB : w.heap.size ≤ B) : OwnL B (fun (_ : β) W => KeepsF gd C w W) := fun s W W' row hs hg hr =>
  ⟨Nat.le_trans hs.size hg.size, fun k o hC hk ho => by
    have h1 := hs.same k o hC hk ho
    refine (hg.block k (Array.getElem?_eq_some_iff.1 h1).1 (fun e => ?_)).trans h1
    have h2 := (hr k e.symm).1
    have h3 := (Array.getElem?_eq_some_iff.1 hk).1
    omega⟩
theorem KeepsG.thenF {gd : Obj → Bool} {C : Nat} {X Y Z : World} (h : KeepsG gd X Y) (k : KeepsF gd C Y Z) : KeepsF gd C X Z := ⟨Nat.le_trans h.size k.size, fun i o hi h1 ho => k.same i o hi (h.same i o h1 ho) ho⟩
theorem pre_mid {A B C : List Nm} {y : Nm} (h : B <+: C) : A ++ y :: B <+: A ++ y :: C := by
  obtain ⟨t, rfl⟩ := h
  exact ⟨t, by simp⟩

set_option maxRecDepth 100000 in
set_option maxHeartbeats 8000000 in
theorem below_gives {d : Nat} {S : Nat → Prop} {L : List Ac} {g : Gh} (hG : Good L) : ∀ (k : Nat) (x : Nm), isN L x → 6 ≤ dep x + k → ∀ (w : World) (B : Nat), ChAt w d S L g → Boxed w B 98 (ptr (g.nd x)) → GivesS gdT Tryz.prog 166 #[ptr B] (encN g) (desc L k x) w := by
  intro k
  induction k with
  | zero =>
    intro x hx hd w B hC hB l J Jx W hW hJ hJx hY h0
    have hk := kids_none hG (x := x) (by omega)
    have hC2 : ChAt W d S L g := hC.keepG (KeepsG.below hW)
    have hB2 : Boxed W B 98 (ptr (g.nd x)) := (hW.block B hB.lt).trans hB
    have cB := hB2.cell
    have c4 := hC2.kids4 hx
    have e4 : ksl g L x = .slice ((g.kb x).map fun q => ⟨q, 0, none⟩) 0 (g.kc x) := by rw [ksl, hk]; rfl
    rw [e4] at c4
    have cB1 := (World.cell?_alloc_lt W (.cells #[.func (.yield l) #[] #[]] 177) ⟨B, 0, none⟩ hB2.lt).trans cB
    have c41 := (World.cell?_alloc_lt W (.cells #[.func (.yield l) #[] #[]] 177) ⟨g.nd x, 4, none⟩ (World.block_lt_of_cell? W _ c4)).trans c4
    have HJ := hide hJ; have H0 := hide h0
    obtain ⟨nx, hnx⟩ : ∃ nx, nx = g.nd x := ⟨_, rfl⟩
    rw [← hnx] at cB1 c41
    obtain ⟨pk, hpk⟩ : ∃ pk, pk = (g.kb x).map fun q => (⟨q, 0, none⟩ : Addr) := ⟨_, rfl⟩
    rw [← hpk] at c41
    clear hY hJ hJx h0 hB hW hC hC2 hB2 cB c4 hnx e4 hk hpk
    refine (callsIn_wide (n := 4)).1 ?_
    refine callsIn_of_wp_marks Tryz.func166 rfl trivial ?_ rfl
    simp only [Tryz.ntmps166, List.size_toArray, List.length_cons, List.length_nil, Nat.reduceAdd, Nat.reduceSub, Array.replicate_succ, Array.replicate_zero, List.push_toArray, List.append_toArray, List.nil_append, List.cons_append]
    gi_wp2_with fail
    refine wpIn_loop_once ?_
    gi_wp2
    exact ⟨_, results_none rfl _ _ _, ⟨_, rfl⟩, .inl ((unhide HJ).alloc _ (unhide H0))⟩
  | succ k ih =>
    intro x hx hd w B hC hB l J Jx W hW hJ hJx hY h0
    have IH := hide ih
    clear ih
    have hC2 : ChAt W d S L g := hC.keepG (KeepsG.below hW)
    have hB2 : Boxed W B 98 (ptr (g.nd x)) := (hW.block B hB.lt).trans hB
    obtain ⟨W0, hW0⟩ : ∃ W0, W0 = W.alloc (.cells #[.func (.yield l) #[] #[]] 177) := ⟨_, rfl⟩
    have kW : KeepsG gdT W W0 := by rw [hW0]; exact KeepsG.below ((Below.refl _ W).alloc (Nat.le_refl _) _)
    have hC0 := hC2.keepG kW
    have bY : Boxed W0 W.heap.size 177 (.func (.yield l) #[] #[]) := by rw [hW0]; exact Boxed.new W 177 _
    have bB : Boxed W0 B 98 (ptr (g.nd x)) := by rw [hW0]; exact hB2.alloc _
    have z0 : W0.heap.size = W.heap.size + 1 := by rw [hW0]; simp
    have j0 : J [] W0 := by rw [hW0]; exact hJ.alloc _ h0
    have cB := bB.cell
    have c4 := hC0.kids4 hx
    obtain ⟨nx, hnx⟩ : ∃ nx, nx = g.nd x := ⟨_, rfl⟩
    rw [← hnx] at cB c4
    obtain ⟨pk, hpk⟩ : ∃ pk, pk = (g.kb x).map fun q => (⟨q, 0, none⟩ : Addr) := ⟨_, rfl⟩
    obtain ⟨n, hn⟩ : ∃ n, n = (kids L x).length := ⟨_, rfl⟩
    obtain ⟨c, hc⟩ : ∃ c, c = g.kc x := ⟨_, rfl⟩
    have e4 : ksl g L x = .slice pk n c := by rw [ksl, hpk, hn, hc]
    have hn100 : n ≤ 100 := by rw [hn]; exact Nat.le_trans (kids_len L x) hG.len
    rw [e4] at c4
    have HJ := hide hJ; have HX := hide hJx; have HY := hide hY; have HC0 := hide hC0; have BY := hide bY; have Z0 := hide z0; have J0 := hide j0; have HN := hide hn; have E4 := hide e4; have HW0 := hide hW0; have HG := hide hG; have HXN := hide hx; have HD := hide hd
    clear hY hJ hJx h0 hB hW hC hC2 hB2 kW hC0 bY bB z0 j0 hnx hpk hn hc e4 hG hx hd
    refine (callsIn_wide (n := 4)).1 ?_
    refine callsIn_of_wp_marks Tryz.func166 rfl trivial ?_ rfl
    simp only [Tryz.ntmps166, List.size_toArray, List.length_cons, List.length_nil, Nat.reduceAdd, Nat.reduceSub, Array.replicate_succ, Array.replicate_zero, List.push_toArray, List.append_toArray, List.nil_append, List.cons_append]
    subst hW0
    gi_wp2_with fail
    refine wpIn_loop (fun b' w' => ∃ v4 v5 v12 v13 v14 v15 v16 v17 v18 v19 v20 v21 v22 v23 v24 v25 v26 : Value, ∃ (i : Nat) (ds : List Nat), (i ≤ n ∧ Hid (Bl (W.alloc (.cells #[.func (.yield l) #[] #[]] 177)) J (upTo L k x i) (W.heap.size + 1) ds w')) ∧ b' = { tmps := #[.func (.yield l) #[] #[], ptr B, ptr W.heap.size, undef, v4, v5, ptr nx, ptr nx, .pointer (some ⟨nx, 4, none⟩), .slice pk n c, .int .i64 n, .int .i64 (i : Int), v12, v13, v14, v15, v16, v17, v18, v19, v20, v21, v22, v23, v24, v25, v26], defers := ds.map mkD }) (fun b' _ => n - (intOf' (b'.tmps.getD 11 undef)).toNat) ?_ ?_
    · refine ⟨undef, undef, undef, undef, undef, undef, undef, undef, undef, undef, undef, undef, undef, undef, undef, undef, undef, 0, [], ⟨Nat.zero_le _, ?_⟩, rfl⟩
      refine ⟨?_, KeepsG.refl _ _, List.nodup_nil, fun D h => by cases h⟩
      have : upTo L k x 0 = [] := by simp [upTo]
      rw [this]
      exact unhide J0
    · rintro b' wr ⟨v4, v5, v12, v13, v14, v15, v16, v17, v18, v19, v20, v21, v22, v23, v24, v25, v26, i, ds, ⟨hi, hrel⟩, rfl⟩
      have hr := unhide hrel
      have hC1 := (unhide HC0).keepG hr.kp
      have bY1 : Boxed wr W.heap.size 177 (.func (.yield l) #[] #[]) := hr.kp.same _ _ (unhide BY) rfl
      have cY := bY1.cell
      by_cases hlt : i < n
      · have hik : i < (kids L x).length := by rw [← unhide HN]; exact hlt
        rcases hC1.rowK (unhide HXN) with h0 | ⟨q, e2, hr2⟩
        · rw [h0] at hik; simp at hik
        have e3 : pk = some ⟨q, 0, none⟩ := by
          have := (unhide E4).symm.trans e2
          injection this
        subst e3
        obtain ⟨y, hy⟩ : ∃ y, y = (kids L x)[i] := ⟨_, rfl⟩
        have c5 := hr2.row i hik
        rw [← hy] at c5
        obtain ⟨ny, hny⟩ : ∃ ny, ny = g.nd y := ⟨_, rfl⟩
        rw [← hny] at c5
        have hup : upTo L k x (i + 1) = upTo L k x i ++ y :: desc L k y := by rw [upTo_succ hik, ← hy]
        have hpall : upTo L k x i ++ y :: desc L k y <+: desc L (k + 1) x := by rw [← hup]; exact upTo_pre _
        have hp1 : upTo L k x i ++ [y] <+: desc L (k + 1) x := List.IsPrefix.trans (pre_mid (B := []) List.nil_prefix) hpall
        obtain ⟨fn, tmps, assign, body, hyy, hR⟩ := unhide HY (upTo L k x i) y wr hr.j hp1
        unfold encN at hyy
        rw [← hny] at hyy
        have hyk : y ∈ kids L x := by rw [hy]; exact List.getElem_mem hik
        have hyN : isN L y := .inr (mem_kids.1 hyk).1
        have hyd : 6 ≤ dep y + k := by have := (kid_dep (unhide HG) hyk).1; have := unhide HD; omega
        have HR := hide (round_any (m' := 4 - 1) hR); have HUP := hide hup; have HPA := hide hpall; have HP1 := hide hp1; have HNY := hide hny; have HYN := hide hyN; have HYD := hide hyd
        have hwi : IntKind.i64.wrap ((i : Int) + 1) = (i : Int) + 1 := by rw [IntKind.wrap_i64]; omega
        clear hR hup hpall hp1 hny hyN hyd hyk hy hr2 e2 hC1 bY1 hr
        gi_wp2_with fail
        refine (unhide HR).mono ?_
        rintro e W3 (⟨rfl, hJ3, hk3⟩ | ⟨rfl, hx3, hk3⟩)
        · have J3 := hide hJ3; have K3 := hide hk3
          clear hJ3 hk3
          gi_wp2_with fail
          refine ⟨trivial, (callsIn_wide.2 (below_any ny W3)).mono ?_⟩
          rintro e W4 ⟨rfl, hw4⟩
          have k4 : KeepsG gdT wr W4 := (unhide K3).trans (by rw [hw4]; exact KeepsG.below ((Below.refl _ W3).alloc (Nat.le_refl _) _))
          have j4 : J (upTo L k x i ++ [y] ++ []) W4 := by rw [hw4, List.append_nil]; exact (unhide HJ).alloc _ (unhide J3)
          have b4 : Boxed W4 W3.heap.size 98 (ptr (g.nd y)) := by rw [hw4, ← unhide HNY]; exact Boxed.new W3 98 _
          have kA : KeepsG gdT (W.alloc (.cells #[.func (.yield l) #[] #[]] 177)) W4 := (unhide hrel).kp.trans k4
          have z4 : W.heap.size + 1 ≤ W4.heap.size := by have := kA.size; have := unhide Z0; omega
          have GV := hide (unhide IH y (unhide HYN) (unhide HYD) W4 W3.heap.size ((unhide HC0).keepG kA) b4)
          have K4 := hide k4; have J4 := hide j4; have KA := hide kA; have Z4 := hide z4
          clear hw4 k4 j4 b4 kA z4
          gi_wp2_with fail
          refine range_st (α := Nm) gdT gdT_lpy (by omega) (gf := 166) (lb := #[ptr W3.heap.size]) rfl enters39 (unhide GV) (fun _ => rfl)
            (fun pre W' => J (upTo L k x i ++ [y] ++ pre) W' ∧ KeepsG gdT W4 W') (fun pre W' => Jx (upTo L k x i ++ [y] ++ pre) W' ∧ KeepsF gdT W.heap.size W4 W')
            (OwnL.and (fun s X Y row hs hg hr => unhide HJ _ X Y row hs hg (fun r e => by obtain ⟨h1, h2⟩ := hr r e; exact ⟨by have := unhide Z4; omega, h2⟩)) (ownL_keepsG (Nat.le_refl _)))
            (OwnL.and (fun s X Y row hs hg hr => unhide HX _ X Y row hs hg (fun r e => by obtain ⟨h1, h2⟩ := hr r e; exact ⟨by have := unhide Z4; omega, h2⟩)) (ownL_keepsF (Nat.le_refl _)))
            ⟨unhide J4, KeepsG.refl _ _⟩
            (fun z => { tmps := #[.func (.yield l) #[] #[], ptr B, ptr W.heap.size, undef, ptr ny, ptr (g.nd z), ptr nx, ptr nx, .pointer (some ⟨nx, 4, none⟩), .slice (some ⟨q, 0, none⟩) n c, .int .i64 n, .int .i64 (i : Int), .bool true, .pointer (some ⟨q, i, none⟩), ptr ny, .func (.yield l) #[] #[], ptr ny, .bool true, .bool false, ptr ny, .func (.func 166) #[] #[ptr W3.heap.size], ptr (g.nd z), v22, v23, v24, v25, v26], defers := [] }) ?assign ?body ?done ?stop
          case assign =>
            intro l2 z W' K hK
            unfold encN
            gi_wp2
            exact hK
          case body =>
            rintro l2 pre z X ⟨hjX, hkX⟩ hpx
            have bYX : Boxed X W.heap.size 177 (.func (.yield l) #[] #[]) := ((unhide KA).trans hkX).same _ _ (unhide BY) rfl
            have cYX := bYX.cell
            have hp2 : upTo L k x i ++ [y] ++ pre ++ [z] <+: desc L (k + 1) x := by
              have h1 := List.IsPrefix.trans (pre_mid (A := upTo L k x i) (y := y) hpx) (unhide HPA)
              have e1 : upTo L k x i ++ [y] ++ pre ++ [z] = upTo L k x i ++ y :: (pre ++ [z]) := by simp
              rw [e1]
              exact h1
            obtain ⟨fn2, tmps2, assign2, body2, hy2, hR2⟩ := unhide HY (upTo L k x i ++ [y] ++ pre) z X hjX hp2
            unfold encN at hy2
            have HR2 := hide (round_any (m' := 4 - 1 - 1 - 1) hR2)
            obtain ⟨nz, hnz⟩ : ∃ nz, nz = g.nd z := ⟨_, rfl⟩
            rw [← hnz] at hy2 ⊢
            have HKX := hide hkX
            clear hR2 hjX bYX hp2 hpx hnz hkX
            gi_wp2_with fail
            refine (unhide HR2).mono ?_
            rintro e X2 (⟨rfl, hJ5, hk5⟩ | ⟨rfl, hx5, hk5⟩)
            · have J5 := hide hJ5; have K5 := hide hk5
              clear hJ5 hk5
              gi_wp2
              refine .inl ⟨rfl, unhide K5, ?_, (unhide HKX).trans (unhide K5)⟩
              rw [← List.append_assoc]
              exact unhide J5
            · have X5 := hide hx5; have K5 := hide hk5
              clear hx5 hk5
              gi_wp2
              refine .inr ⟨rfl, (unhide K5).later (by have := unhide Z4; omega), ?_, (unhide HKX).thenF (unhide K5)⟩
              rw [← List.append_assoc]
              exact unhide X5
          case done =>
            rintro D X hD ⟨hjX, hkX⟩ hK
            have BX : Hid (Bl (W.alloc (.cells #[.func (.yield l) #[] #[]] 177)) J (upTo L k x (i + 1)) (W.heap.size + 1) (D :: ds) X) := by
              refine ⟨?_, (unhide KA).trans hkX, List.nodup_cons.2 ⟨fun hin => ?_, (unhide hrel).nd⟩, fun D' hD' => ?_⟩
              · rw [unhide HUP]
                rw [List.append_assoc] at hjX
                exact hjX
              · have h1 := (Array.getElem?_eq_some_iff.1 ((unhide K4).same _ _ ((unhide hrel).lp D hin).2 rfl)).1
                omega
              · rcases List.mem_cons.1 hD' with rfl | h
                · exact ⟨by have := unhide Z4; omega, hK⟩
                · obtain ⟨h1, h2⟩ := (unhide hrel).lp D' h
                  exact ⟨h1, hkX.same _ _ ((unhide K4).same _ _ h2 rfl) rfl⟩
            clear hjX hkX hK
            gi_wp2
            refine ⟨⟨_, _, _, _, _, _, _, _, _, _, _, _, _, _, _, _, _, i + 1, D :: ds, ⟨by omega, unhide BX⟩, rfl⟩, ?_⟩
            show n - ((i : Int) + 1).toNat < n - ((i : Int)).toNat
            omega
          case stop =>
            rintro D pre X hD hp ⟨hxX, hkX⟩ hK
            have hp3 : upTo L k x i ++ [y] ++ pre <+: desc L (k + 1) x := by
              have h1 := List.IsPrefix.trans (pre_mid (A := upTo L k x i) (y := y) hp) (unhide HPA)
              have e1 : upTo L k x i ++ [y] ++ pre = upTo L k x i ++ y :: pre := by simp
              rw [e1]
              exact h1
            have HXX := hide hxX; have HKX := hide hkX; have HK := hide hK; have HP3 := hide hp3
            clear hxX hkX hK hp3
            gi_wp2
            refine leaves_all (B := W.heap.size) (I := fun _ W' => Jx (upTo L k x i ++ [y] ++ pre) W') (fun W' _ => results_none rfl _ _ _) (fun _ X Y row hs hg hr => unhide HX _ X Y row hs hg hr) (fun W' h => ⟨⟨_, rfl⟩, .inr ⟨_, unhide HP3, h⟩⟩) (D :: ds) X (unhide HXX) (List.nodup_cons.2 ⟨fun hin => ?_, (unhide hrel).nd⟩) (fun D' hD' => ?_)
            · have h1 := (Array.getElem?_eq_some_iff.1 ((unhide K4).same _ _ ((unhide hrel).lp D hin).2 rfl)).1
              omega
            · rcases List.mem_cons.1 hD' with rfl | h
              · exact ⟨by have := unhide Z4; omega, unhide HK⟩
              · obtain ⟨h1, h2⟩ := (unhide hrel).lp D' h
                exact ⟨by omega, (unhide HKX).same _ _ (by omega) ((unhide K4).same _ _ h2 rfl) rfl⟩
        · have X3 := hide hx3; have K3 := hide hk3
          clear hx3 hk3
          gi_wp2
          refine leaves_all (B := W.heap.size) (I := fun _ W' => Jx (upTo L k x i ++ [y]) W') (fun W' _ => results_none rfl _ _ _) (fun _ X Y row hs hg hr => unhide HX _ X Y row hs hg hr) (fun W' h => ⟨⟨_, rfl⟩, .inr ⟨_, unhide HP1, h⟩⟩) ds W3 (unhide X3) (unhide hrel).nd (fun D' hD' => ?_)
          obtain ⟨h1, h2⟩ := (unhide hrel).lp D' hD'
          exact ⟨by omega, (unhide K3).same _ _ (by omega) h2 rfl⟩
      · have hall : upTo L k x i = desc L (k + 1) x := upTo_all L k x (by rw [← unhide HN]; omega)
        have HA := hide hall
        clear hr hC1 bY1 hall
        gi_wp2
        refine leaves_all (B := W.heap.size) (I := fun _ W' => J (desc L (k + 1) x) W') (fun W' _ => results_none rfl _ _ _) (fun _ X Y row hs hg hr => unhide HJ _ X Y row hs hg hr) (fun W' h => ⟨⟨_, rfl⟩, .inl h⟩) ds wr ?_ (unhide hrel).nd (fun D' hD' => ?_)
        · have := (unhide hrel).j
          rw [unhide HA] at this
          exact this
        · obtain ⟨h1, h2⟩ := (unhide hrel).lp D' hD'
          exact ⟨by omega, h2⟩
end Go.Proofs.YtdeibifjiefapaaGreatDoor
