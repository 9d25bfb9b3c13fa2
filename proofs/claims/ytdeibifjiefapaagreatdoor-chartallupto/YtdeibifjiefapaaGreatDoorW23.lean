import Derived.Test.YtdeibifjiefapaaGreatDoorW22
/- The document's chart: From (14). -/
namespace Go.Proofs.YtdeibifjiefapaaGreatDoor
open Go Go.Shelf Go.ChangeShapes Go.WideShapes Go.ChangeAt Go.RowKit Go.Maps Go.Sort
set_option linter.unusedVariables false
theorem good_take {l : List Ac} (hlen : l.length ≤ 100) : ∀ i, i ≤ l.length → okTo l i → Good (l.take i)
  | 0, _, _ => by rw [List.take_zero]; exact good_nil
  | i + 1, hi, hok => by
    have hG := good_take hlen i (by omega) (fun j h hj => hok j h (by omega))
    have hil : i < l.length := by omega
    have hoi := hok i hil (by omega)
    have hrt := rise_take hil hG hoi.1
    have hfts := fit_fits hG hoi.2 hrt (by rw [List.length_take]; omega)
    have h := hG.ins hfts
    rw [ins_take hil hrt] at h
    exact h
theorem ok_good {l : List Ac} : fromOk l ↔ Good l := ⟨fun h => by
  have h1 := good_take h.1 l.length (Nat.le_refl _) h.2
  rwa [List.take_length] at h1, good_ok⟩
/-- what the document asks of the account at a place -/
def rokAt (l : List Ac) (j : Nat) : Prop := ∃ hj : j < l.length, rfitB l l[j] = true ∧ (0 < j → (l[j - 1]'(by omega)).nm < l[j].nm)
theorem rok_good {l : List Ac} (hlen : l.length ≤ 100) : (∀ j, j < l.length → rokAt l j) ↔ Good l := by
  constructor
  · intro h
    have key : ∀ (d i : Nat) (h1 : i + d + 1 < l.length), (l[i]'(by omega)).nm < l[i + d + 1].nm := fun d => by
      induction d with
      | zero =>
        intro i h1
        obtain ⟨_, _, h2⟩ := h (i + 1) h1
        exact h2 (by omega)
      | succ d ih =>
        intro i h1
        obtain ⟨_, _, h2⟩ := h (i + (d + 1) + 1) h1
        exact slt_trans (ih i (by omega)) (h2 (by omega))
    have hr : l.Pairwise fun a b => a.nm < b.nm := List.pairwise_iff_getElem.2 (fun i j hi hj hij => by
      have h1 := key (j - i - 1) i (by omega)
      have e : i + (j - i - 1) + 1 = j := by omega
      simp only [e] at h1
      exact h1)
    have hf : ∀ a ∈ l, rfitB l a = true := fun a ha => by
      obtain ⟨j, hj, rfl⟩ := List.mem_iff_getElem.1 ha
      exact (h j hj).2.1
    have hu : ∀ a ∈ l, nameL a.nm = true ∧ (1 ≤ a.dy ∧ a.dy ≤ 3652059) ∧ (1 ≤ a.ty ∧ a.ty ≤ 5) ∧ (match ups a.nm with
      | [] => true
      | p :: _ => match fnd l p with
        | none => false
        | some b => (b.ty == a.ty) && decide (b.dy ≤ a.dy) && (!b.cl || a.cl)) = true := fun a ha => by
      have h1 := hf a ha
      unfold rfitB at h1
      simp only [Bool.and_eq_true, decide_eq_true_eq] at h1
      exact ⟨h1.1.1.1, h1.1.1.2, h1.1.2, h1.2⟩
    refine ⟨hr, fun a ha => (hu a ha).1, fun a ha p t e => ?_, fun a ha => (hu a ha).2.1, fun a ha => (hu a ha).2.2.1, hlen⟩
    have h1 := (hu a ha).2.2.2
    rw [e] at h1
    change (match fnd l p with | none => false | some b => (b.ty == a.ty) && decide (b.dy ≤ a.dy) && (!b.cl || a.cl)) = true at h1
    cases hfn : fnd l p with
    | none => rw [hfn] at h1; cases h1
    | some b =>
      rw [hfn] at h1
      obtain ⟨g1, g2⟩ := fnd_some hfn
      simp only [Bool.and_eq_true, decide_eq_true_eq, beq_iff_eq, Bool.or_eq_true, Bool.not_eq_true'] at h1
      refine ⟨b, g1, g2, h1.1.1, h1.1.2, fun hc => ?_⟩
      rcases h1.2 with h2 | h2
      · rw [h2] at hc; cases hc
      · exact h2
  · intro hG j hj
    refine ⟨hj, ?_, fun h0 => List.pairwise_iff_getElem.1 hG.rise (j - 1) j (by omega) hj (by omega)⟩
    have ha : l[j] ∈ l := List.getElem_mem hj
    obtain ⟨a, hae⟩ : ∃ a, a = l[j] := ⟨_, rfl⟩
    rw [← hae] at ha ⊢
    unfold rfitB
    rw [hG.name a ha, decide_eq_true (hG.day a ha), decide_eq_true (hG.typ a ha)]
    simp only [Bool.true_and]
    rcases ups_cases a.nm with e | ⟨p, e, _⟩
    · rw [e]
    · rw [e]
      change (match fnd l p with | none => false | some b => (b.ty == a.ty) && decide (b.dy ≤ a.dy) && (!b.cl || a.cl)) = true
      obtain ⟨b, hb, hbp, h1, h2, h3⟩ := hG.up a ha p _ e
      rw [(fnd_iff hG).2 ⟨hb, hbp⟩]
      simp only [Bool.and_eq_true, decide_eq_true_eq, beq_iff_eq, Bool.or_eq_true, Bool.not_eq_true']
      refine ⟨⟨h1, h2⟩, ?_⟩
      cases hc : b.cl with
      | false => exact .inl rfl
      | true => exact .inr (h3 hc)
/-- what From leaves -/
def RFromOut (W : World) (l : List Ac) (e : Ending) (w' : World) : Prop :=
  ((Good l ∧ ∃ d S, e = .returned (.tuple #[ptr d, .int .i64 0]) ∧ Rc w' d S l ∧ ∀ k, S k → W.heap.size ≤ k) ∨ (¬ Good l ∧ e = .returned (.tuple #[.pointer none, .int .i64 67]))) ∧ Below W.heap.size W w'
section
attribute [local go_sem ↓] ld41_is
set_option maxRecDepth 100000 in
set_option maxHeartbeats 16000000 in
theorem rfrom_any {W : World} {p : Option Addr} {n c : Nat} {l : List Ac} (hl : l.length = n) (hn : n ≤ 1099511627776) (hL : Lies kA W p l) (hpc : p = none → c = 0) (hsz : ∀ a ∈ l, (txN a.nm).size < 4611686018427387904) :
    Calls Tryz.prog 14 #[.slice p n c] W fun e w' => RFromOut W l e w' := by
  obtain ⟨d, hd⟩ : ∃ d, d = W.heap.size := ⟨_, rfl⟩
  obtain ⟨W1, hW1⟩ : ∃ W1, W1 = W.alloc (.cells #[.slice none 0 0] 72) := ⟨_, rfl⟩
  have z1 : W1.heap.size = d + 1 := by rw [hW1, hd]; simp
  have b1 : Below W.heap.size W W1 := by rw [hW1]; exact (Below.refl _ W).alloc (Nat.le_refl _) _
  have r1 : W1.heap[d]? = some (.cells #[.slice none 0 0] 72) := by rw [hW1, hd]; exact World.alloc_heap_new W _
  have c1 : W1.cell? ⟨d, 0, none⟩ = some (.slice none 0 0) := cell_of r1 rfl
  have f1 : W1.frozen? ⟨d, 0, none⟩ = false := froz_of r1 0
  obtain ⟨p2, c2, W2, hr2, ho2, hb2, _⟩ := run_app kA_ok (L := []) (M := l) (v := .slice none 0 0) (n := 0) (B := W1.heap.size) 22 (World.ownsRow_nil _ _ _ _) (Nat.le_refl _) p c hpc (hL.below b1) (by omega)
  rw [Nat.zero_add, hl] at hr2 ho2
  rw [List.nil_append] at ho2
  have r2 : W2.heap[d]? = some (.cells #[.slice none 0 0] 72) := (hb2.block d (by omega)).trans r1
  have c2d : W2.cell? ⟨d, 0, none⟩ = some (.slice none 0 0) := cell_of r2 rfl
  have f2 : W2.frozen? ⟨d, 0, none⟩ = false := froz_of r2 0
  have b2 : Below W.heap.size W W2 := b1.trans (hb2.mono b1.size)
  obtain ⟨X, hX⟩ : ∃ X, X = W2.setCell ⟨d, 0, none⟩ (.slice p2 n c2) := ⟨_, rfl⟩
  have bX : Below W.heap.size W X := by rw [hX]; exact b2.setCell (by rw [hd]; exact Nat.le_refl _) _
  have rX : X.heap[d]? = some (.cells #[.slice p2 n c2] 72) := by rw [hX]; exact heap_set r2 _
  have oX : X.ownsRow W1.heap.size 65 4 (.slice p2 n c2) n (kA.flat l) := by
    rw [hX]
    refine row_keep ho2 (fun g hg => Below.heap_setCell _ _ _ _ (fun e => ?_))
    have h1 := (row_block ho2 hg).1
    have e2 : g = d := e
    omega
  have lX : Lies kA X p2 l := own_lies kA_ok hl oX
  have cX : X.cell? ⟨d, 0, none⟩ = some (.slice p2 n c2) := cell_of rX rfl
  have HRC : Hid (Good l → ∀ Y, Below X.heap.size X Y → Rc Y d (fun k => k = d ∨ (Value.slice p2 n c2).ownBlock = some k) l) := fun hG Y hY => by
    refine Rc.below (W := X) ⟨.slice p2 n c2, rX, by rw [hl]; exact row_le oX (Nat.zero_le _), hG, .inl rfl, fun g hg => ⟨.inr hg, fun e => ?_⟩, fun k hk => ?_⟩ hY
    · have h1 := (row_block oX hg).1
      omega
    · rcases hk with rfl | hk
      · exact (Array.getElem?_eq_some_iff.1 rX).1
      · exact (row_block oX hk).2.1
  have HNS : Hid (∀ k, (k = d ∨ (Value.slice p2 n c2).ownBlock = some k) → W.heap.size ≤ k) := fun k hk => by
    rcases hk with rfl | hk
    · rw [hd]; exact Nat.le_refl _
    · have h1 := (row_block oX hk).1
      omega
  have hX2 := hide hX
  have HR2 := hide hr2
  have HL := hide hL; have HN := hide hl; have HSZ := hide hsz
  have HBX := hide bX; have HLX := hide lX; have HCX := hide cX
  have HW1 := hide hW1
  have zW : X.heap.size = W2.heap.size := by rw [hX]; simp
  clear hl hL hsz b1 r1 hr2 ho2 hb2 r2 b2 bX rX oX lX hX cX zW
  rw [hd] at c1 f1 c2d f2 hX2 HCX
  rw [hd] at z1
  go_enter Tryz.func14, Tryz.ntmps14
  go_upto_region 3 with (rw [← unhide HW1]; at_builtin; refine wpList_append_run rfl _ _ 22 rfl _ _ _ _ rfl rfl (unhide HR2) ?_)
  rw [← unhide hX2]
  rw [← hd] at HCX ⊢
  clear hX2 HW1 HR2 c1 f1 c2d f2 z1 hW1 hd
  by_cases hbig : n ≤ 100
  · have h100 : ¬ (100 : Int) < (n : Int) := by omega
    go_wp2_with fail
    go_loopw [5] (fun v5 wr => ∃ i : Nat, i ≤ n ∧ v5 = .int .i64 i ∧ Hid (Below X.heap.size X wr) ∧ Hid (∀ j, j < i → rokAt l j)) (fun v5 _ => n - (intOf' v5).toNat)
    case atStart => exact ⟨0, Nat.zero_le _, rfl, Below.refl _ _, fun j hj => by omega⟩
    case round =>
      obtain ⟨i, hi, rfl, hbw, hok⟩ := hrel
      obtain ⟨w7, hw7⟩ : ∃ w7, w7 = wr := ⟨_, rfl⟩
      rw [← hw7] at hbw ⊢
      clear hw7
      have hbW7 := (unhide HBX).trans ((unhide hbw).mono (unhide HBX).size)
      by_cases hlt : i < n
      · have hil : i < l.length := by rw [unhide HN]; exact hlt
        obtain ⟨b, off, hp, hbl, hr⟩ := (unhide HL).2 i hil
        subst hp
        have hld := run_ld41 (w := w7) (b := b) (o := off + i * 4) (a := l[i]) (fun j v hv => (hbW7.cell (p := ⟨b, off + i * 4 + j, none⟩) hbl).trans (hr j v hv))
        have HC0 : Hid (∀ (k : Nat) (hk : k < l.length) (Y : World), Below w7.heap.size w7 Y → Y.cell? ⟨b, off + k * 4, none⟩ = some (.string (txN l[k].nm))) := fun k hk Y hY => (acc_cells4 (unhide HL) hk (hbW7.trans (hY.mono hbW7.size))).1
        have cdw := ((unhide hbw).cell (p := ⟨d, 0, none⟩) (World.block_lt_of_cell? _ _ (unhide HCX))).trans (unhide HCX)
        have dF := hide (rfits_any cdw ((unhide HLX).below (unhide hbw)) (unhide HN) (by omega) l[i] (unhide HSZ _ (List.getElem_mem hil)))
        have HOKI : Hid (rokAt l i ↔ rfitB l l[i] = true ∧ (0 < i → (l[i - 1]'(by omega)).nm < l[i].nm)) := ⟨fun ⟨_, h⟩ => h, fun h => ⟨hil, h⟩⟩
        have HNG : Hid (¬ rokAt l i → ¬ Good l) := fun h hG => h ((rok_good hG.len).2 hG i hil)
        have c0n := fun Y hY => unhide HC0 i hil Y hY
        have HC1 := hide c0n
        obtain ⟨a, ha⟩ : ∃ a, a = l[i] := ⟨_, rfl⟩
        rw [← ha] at hld dF HOKI HC1
        obtain ⟨F, hF⟩ : ∃ F, F = rfitB l a := ⟨_, rfl⟩
        rw [← hF] at dF HOKI
        unfold acV at hld dF
        have hwi : IntKind.i64.wrap ((i : Int) + 1) = (i : Int) + 1 := wrapI (by omega) (by omega)
        have HST : Hid (rokAt l i → ∀ j, j < i + 1 → rokAt l j) := fun h j hj => by
          by_cases e : j = i
          · subst e; exact h
          · exact unhide hok j (by omega)
        obtain ⟨TA, hTA⟩ : ∃ TA, TA = txN a.nm := ⟨_, rfl⟩
        rw [← hTA] at hld dF
        have HTA := hide hTA
        clear hF ha hr c0n hbl hTA hbW7 hpc
        go_upto_region 9 with (go_at_call 78; with_reducible refine (unhide dF).mono ?_; rintro e Y ⟨rfl, hb⟩; have BY := hide hb; clear hb)
        have BXY : Hid (∀ m : Nat, Below X.heap.size X (Y.drewN m)) := fun m => below_drewN ((unhide hbw).trans ((unhide BY).mono (unhide hbw).size)) m
        have BWY : Hid (∀ m : Nat, Below W.heap.size W (Y.drewN m)) := fun m => (unhide HBX).trans ((unhide BXY m).mono (unhide HBX).size)
        clear hld dF cdw
        cases F with
        | false =>
          have hng := unhide HNG (fun h => by have h1 := (unhide HOKI).1 h; exact absurd h1.1 (by decide))
          have HNG2 := hide hng
          clear hng HNG HST
          as_aux_lemma =>
            go_wp2_with fail
            go_quiet (fail)
            go_wp2_with fail
            go_ret2
            exact ⟨.inr ⟨unhide HNG2, rfl⟩, unhide BWY _⟩
        | true =>
          by_cases hi0 : i = 0
          · subst hi0
            have HS2 := hide (unhide HST ((unhide HOKI).2 ⟨rfl, fun h => absurd h (by decide)⟩))
            clear HST HNG
            as_aux_lemma =>
              go_wp2_with fail
              go_quiet (fail)
              go_wp2_with fail
              refine ⟨⟨0 + 1, by omega, rfl, unhide BXY _, unhide HS2⟩, ?_⟩
              show n - ((0 : Int) + 1).toNat < n - ((0 : Int)).toNat
              omega
          · have hpos : (0 : Int) < (i : Int) := by omega
            have hd1 : decide ((0 : Int) < (i : Int)) = true := decide_eq_true hpos
            have hposN : 0 < i := by omega
            have hw1 : IntKind.i64.wrap ((i : Int) - 1) = ((i - 1 : Nat) : Int) := by rw [wrapI (by omega) (by omega)]; omega
            have hk1 : i - 1 < n := by omega
            obtain ⟨q, hq⟩ : ∃ q, q = (l[i - 1]'(by omega)).nm := ⟨_, rfl⟩
            have y0 := unhide HC1 Y (unhide BY)
            have y1 := unhide HC0 (i - 1) (by omega) Y (unhide BY)
            rw [← hq] at y1 HOKI
            have bl1 : Op.bytesLess (txN a.nm).toList (txN q).toList = decide (a.nm < q) := by rw [Go.Proofs.bytesLess_eq, ByteArray.toList_eq, ByteArray.toList_eq, txN_list, txN_list]
            clear hq
            by_cases hris : q < a.nm
            · have z0 : ¬ a.nm < q := fun h => slt_irrefl _ (slt_trans h hris)
              have z3 : ¬ (txN a.nm).toList = (txN q).toList := by
                rw [ByteArray.toList_eq, ByteArray.toList_eq, txN_list, txN_list]
                intro h
                rw [h] at hris
                exact slt_irrefl _ hris
              have z2 : ((txN a.nm).toList == (txN q).toList) = false := beq_eq_false_iff_ne.2 z3
              rw [decide_eq_false z0] at bl1
              have HS2 := hide (unhide HST ((unhide HOKI).2 ⟨rfl, fun _ => hris⟩))
              obtain ⟨T, hT⟩ : ∃ T, T = txN a.nm := ⟨_, rfl⟩
              obtain ⟨Q, hQ⟩ : ∃ Q, Q = txN q := ⟨_, rfl⟩
              rw [← hT] at y0 bl1 z2 z3
              rw [← hQ] at y1 bl1 z2 z3
              clear HST HNG z0 hris hT hQ
              as_aux_lemma =>
                go_wp2_with fail
                go_quiet (fail)
                go_wp2_with fail
                refine ⟨⟨i + 1, by omega, by simp, unhide BXY _, unhide HS2⟩, ?_⟩
                show n - ((i : Int) + 1).toNat < n - ((i : Int)).toNat
                omega
            · have HNG2 := hide (unhide HNG (fun h => hris (((unhide HOKI).1 h).2 hposN)))
              by_cases haq : a.nm < q
              · rw [decide_eq_true haq] at bl1
                obtain ⟨T, hT⟩ : ∃ T, T = txN a.nm := ⟨_, rfl⟩
                obtain ⟨Q, hQ⟩ : ∃ Q, Q = txN q := ⟨_, rfl⟩
                rw [← hT] at y0 bl1
                rw [← hQ] at y1 bl1
                clear HST HNG hris haq hT hQ
                as_aux_lemma =>
                  go_wp2_with fail
                  go_quiet (fail)
                  go_wp2_with fail
                  go_ret2
                  exact ⟨.inr ⟨unhide HNG2, rfl⟩, unhide BWY _⟩
              · have heq : a.nm = q := slt_tri haq hris
                rw [decide_eq_false haq, ← heq] at bl1
                rw [← heq] at y1
                obtain ⟨T, hT⟩ : ∃ T, T = txN a.nm := ⟨_, rfl⟩
                rw [← hT] at y0 y1 bl1
                clear HST HNG hris haq hT heq
                as_aux_lemma =>
                  go_wp2_with fail
                  go_quiet (fail)
                  go_wp2_with fail
                  go_ret2
                  exact ⟨.inr ⟨unhide HNG2, rfl⟩, unhide BWY _⟩
      · have hin : i = n := by omega
        have hG : Good l := (rok_good (by rw [unhide HN]; exact hbig)).1 (fun j hj => unhide hok j (by rw [hin, ← unhide HN]; exact hj))
        have HF : Hid (RFromOut W l (.returned (.tuple #[ptr d, .int .i64 0])) w7) := ⟨.inl ⟨hG, d, _, rfl, unhide HRC hG _ (unhide hbw), unhide HNS⟩, hbW7⟩
        subst hin
        clear hG hbW7
        as_aux_lemma =>
          go_wp2_with fail
          go_ret2
          exact unhide HF
  · have h100 : (100 : Int) < (n : Int) := by omega
    have HNG : Hid (¬ Good l) := fun hG => by have := hG.len; have := unhide HN; omega
    as_aux_lemma =>
      go_wp2_with fail
      go_ret2
      exact ⟨.inr ⟨unhide HNG, rfl⟩, unhide HBX⟩
end
end Go.Proofs.YtdeibifjiefapaaGreatDoor
