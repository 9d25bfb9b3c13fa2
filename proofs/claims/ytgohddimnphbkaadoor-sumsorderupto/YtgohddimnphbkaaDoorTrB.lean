/- SumsTree (5): what its loops sum. -/
import Derived.Test.YtgohddimnphbkaaDoorTrA
import Derived.Test.YtgohddimnphbkaaDoorBkA
import Derived.Test.YtgohddimnphbkaaDoorBlB
namespace Go.Proofs.YtgohddimnphbkaaDoor
open Go Go.RowKit Go.Shelf Go.ChangeShapes Go.WideShapes Go.ChangeAt Go.Maps Go.Sort
set_option linter.unusedVariables false
theorem wrap_sub2 (x y : Int) : IntKind.i64.wrap (IntKind.i64.wrap x - IntKind.i64.wrap y) = IntKind.i64.wrap (x - y) := by
  simp only [IntKind.wrap_i64]
  omega
/-- a sum that wraps round -/
def ws (f : List UInt8 → Int) (x : Int) (K : List (List UInt8)) : Int := IntKind.i64.wrap (x + sm f K)
theorem ws_snoc (f : List UInt8 → Int) (x : Int) (K : List (List UInt8)) (m : List UInt8) : ws f x (K ++ [m]) = IntKind.i64.wrap (ws f x K + f m) := by
  unfold ws
  rw [wrap_add, sm_append]
  congr 1
  simp only [sm]
  omega
theorem ws_same (f : List UInt8 → Int) (x : Int) (K : List (List UInt8)) (m : List UInt8) (h : f m = 0) : ws f x (K ++ [m]) = ws f x K := by
  unfold ws
  rw [sm_append]
  congr 1
  simp only [sm, h]
  omega
/-- right below n -/
def tfR (L : Rows8) (n m : List UInt8) : Int := if (ups m).head? = some n then roll ups L m else 0
def tfT (L : Rows8) (m : List UInt8) : Int := if ups m = [] then roll ups L m else 0
def tfU (L : Rows8) (m : List UInt8) : Int := pos (own L m)
def tfD (L : Rows8) (m : List UInt8) : Int := neg (own L m)
def tpH (L : Rows8) (m : List UInt8) : Bool := own L m != 0
theorem right_is (a b : ByteArray) (ha : undB a b = true) : rtB (a.extract (b.size + 1) a.size) = decide ((ups a.data.toList).head? = some b.data.toList) := by
  unfold undB at ha
  rw [decide_eq_true_iff] at ha
  unfold rtB
  rw [decide_eq_decide, right_iff]
  have e : (a.extract (b.size + 1) a.size).data.toList = a.data.toList.drop (b.data.toList.length + 1) := ext_drop a (b.size + 1)
  rw [e]
  exact ⟨fun h => ⟨ha, h⟩, fun h => h.2⟩
theorem not_right {a b : ByteArray} (h : undB a b = false) : ¬ (ups a.data.toList).head? = some b.data.toList := fun e => by
  unfold undB at h
  rw [decide_eq_false_iff_not] at h
  exact h ((right_iff _ _).1 e).1
theorem rt_is (a : ByteArray) : rtB a = decide (ups a.data.toList = []) := by
  unfold rtB
  rw [decide_eq_decide, root_iff]
theorem und_lt {a b : ByteArray} (h : undB a b = true) : b.size < a.size := by
  unfold undB at h
  rw [decide_eq_true_iff, below_iff] at h
  exact h.1
section
variable {L : Rows8} {hs ss : List (List UInt8)}
theorem in_all (hf : fits L) (hnd : hs.Nodup) (hm : ∀ k, k ∈ hs ↔ heldBy L k) (n : List UInt8) : ws (tfR L n) (own L n) (srt hs) = roll ups L n := by
  have hn : (srt hs).Nodup := (srt_perm hs).nodup_iff.2 hnd
  have hc : ∀ x n, own L x ≠ 0 → n ∈ x :: ups x → n ∈ srt hs := fun x n h1 h2 => by rw [srt_mem, hm]; exact ⟨x, h1, h2⟩
  unfold ws tfR
  rw [← roll_tree ups_is L hn hc n]
  exact wrap_isA (fits_roll hf n)
theorem roots_all (hnd : hs.Nodup) (hm : ∀ k, k ∈ hs ↔ heldBy L k) : ws (tfT L) 0 (srt hs) = IntKind.i64.wrap (DEB L - CRE L) := by
  have hn : (srt hs).Nodup := (srt_perm hs).nodup_iff.2 hnd
  have hc : ∀ x n, own L x ≠ 0 → n ∈ x :: ups x → n ∈ srt hs := fun x n h1 h2 => by rw [srt_mem, hm]; exact ⟨x, h1, h2⟩
  unfold ws tfT
  rw [roll_roots ups_is L hn hc, Int.zero_add]
  unfold DEB CRE
  rw [sides_tot L (nodup_nub _) (own_in L)]
theorem up_all (hf : fits L) (hnd : hs.Nodup) (hm : ∀ k, k ∈ hs ↔ heldBy L k) : ws (tfU L) 0 (srt hs) = DEB L := by
  have hn : (srt hs).Nodup := (srt_perm hs).nodup_iff.2 hnd
  have e : sm (tfU L) (srt hs) = DEB L := deb_same hn (nodup_nub _) (fun n h => by rw [srt_mem, hm]; exact ⟨n, h, by simp⟩) (own_in L) (fun _ => rfl)
  unfold ws
  rw [e, Int.zero_add]
  have := DEB_nonneg L
  exact wrap_isA ⟨by omega, hf.1⟩
theorem down_all (hf : fits L) (hnd : hs.Nodup) (hm : ∀ k, k ∈ hs ↔ heldBy L k) : ws (tfD L) 0 (srt hs) = CRE L := by
  have hn : (srt hs).Nodup := (srt_perm hs).nodup_iff.2 hnd
  have e : sm (tfD L) (srt hs) = CRE L := cre_same hn (nodup_nub _) (fun n h => by rw [srt_mem, hm]; exact ⟨n, h, by simp⟩) (own_in L) (fun _ => rfl)
  unfold ws
  rw [e, Int.zero_add]
  have := CRE_nonneg L
  exact wrap_isA ⟨by omega, hf.2⟩
theorem le_tr (a b c : List UInt8) : decide (a ≤ b) = true → decide (b ≤ c) = true → decide (a ≤ c) = true := by
  simp only [decide_eq_true_eq]
  exact List.le_trans
theorem le_tt (a b : List UInt8) : (decide (a ≤ b) || decide (b ≤ a)) = true := by
  simp only [Bool.or_eq_true, decide_eq_true_eq]
  exact List.le_total a b
theorem trial_is (hnd : hs.Nodup) (hm : ∀ k, k ∈ hs ↔ heldBy L k) (hnd2 : ss.Nodup) (hm2 : ∀ k, k ∈ ss ↔ own L k ≠ 0) : srt ss = (srt hs).filter (tpH L) := by
  have hn : (srt hs).Nodup := (srt_perm hs).nodup_iff.2 hnd
  have e1 : srt ss = srt ((srt hs).filter (tpH L)) := srt_eq hnd2 (hn.sublist List.filter_sublist) (fun k => by
    rw [List.mem_filter, srt_mem, hm, hm2]
    unfold tpH
    rw [bne_iff_ne]
    exact ⟨fun h => ⟨⟨k, h, by simp⟩, h⟩, fun h => h.2⟩)
  rw [e1]
  exact List.mergeSort_of_pairwise ((List.pairwise_mergeSort le_tr le_tt hs).sublist List.filter_sublist)
end
/-- how many of a list are told -/
def cP (p : List UInt8 → Bool) (K : List (List UInt8)) : Nat := (K.filter p).length
theorem cP_snoc (p : List UInt8 → Bool) (K : List (List UInt8)) (m : List UInt8) : cP p (K ++ [m]) = cP p K + (if p m = true then 1 else 0) := by
  unfold cP
  rw [List.filter_append, List.length_append]
  by_cases h : p m = true
  · rw [if_pos h, List.filter_cons_of_pos h]; rfl
  · rw [if_neg h, List.filter_cons_of_neg h]; rfl
theorem cP_at {p : List UInt8 → Bool} : ∀ {S : List (List UInt8)} {i : Nat} (hi : i < S.length), p S[i] = true → ∃ h : cP p (S.take i) < (S.filter p).length, (S.filter p)[cP p (S.take i)] = S[i]
  | [], i, hi, _ => by simp at hi
  | x :: S, 0, _, hp => by
    have hp' : p x = true := hp
    have e : (x :: S).filter p = x :: S.filter p := List.filter_cons_of_pos hp'
    refine ⟨by rw [e]; simp [cP], ?_⟩
    simp [cP, e]
  | x :: S, i + 1, hi, hp => by
    obtain ⟨h, e⟩ := cP_at (S := S) (i := i) (by simpa using hi) (by simpa using hp)
    by_cases hx : p x = true
    · have e1 : (x :: S).filter p = x :: S.filter p := List.filter_cons_of_pos hx
      have e2 : cP p ((x :: S).take (i + 1)) = cP p (S.take i) + 1 := by unfold cP; rw [List.take_succ_cons, List.filter_cons_of_pos hx, List.length_cons]
      refine ⟨by rw [e1, e2, List.length_cons]; omega, ?_⟩
      simp only [e1, e2, List.getElem_cons_succ]
      exact e
    · have e1 : (x :: S).filter p = S.filter p := List.filter_cons_of_neg hx
      have e2 : cP p ((x :: S).take (i + 1)) = cP p (S.take i) := by unfold cP; rw [List.take_succ_cons, List.filter_cons_of_neg hx]
      refine ⟨by rw [e1, e2]; exact h, ?_⟩
      simp only [e1, e2, List.getElem_cons_succ]
      exact e
def ld50 (x : Value) : Sem Value := Instr.loadAt 50 x
theorem ld50_is (x : Value) : Instr.loadAt 50 x = ld50 x := rfl
theorem size50 : (Tryd.prog.info? 50).map (·.size) = some 3 := by kernel_rfl
theorem st50 : Tryd.prog.underlying 50 = some (.struct (Tryd.prog.fieldsOf 50)) := by kernel_rfl
theorem sh50 : Tryd.prog.stoodInHeld 50 = false := by kernel_rfl
theorem eg50 : Tryd.prog.eqGuardType Tryd.prog.depth 50 = false := by kernel_rfl
theorem fl50 : (Tryd.prog.fieldsOf 50).toList.map (fun f => (f.type, f.offset, f.name == "_")) = [(9, 0, false), (2, 1, false), (2, 2, false)] := by kernel_rfl
theorem eq50_same (s : ByteArray) (x y : Int) (w : World) : (Op.equalIn 10000 50 (.agg #[.string s, .int .i64 x, .int .i64 y]) (.agg #[.string s, .int .i64 x, .int .i64 y])).run Tryd.prog w = .ok true w := by
  rw [run_equalIn_agg w 9999 50 _ _ st50 sh50]
  obtain ⟨f0, f1, f2, hf⟩ : ∃ f0 f1 f2, (Tryd.prog.fieldsOf 50).toList = [f0, f1, f2] := by
    have h := congrArg List.length fl50
    rw [List.length_map] at h
    match hq : (Tryd.prog.fieldsOf 50).toList, h with
    | [a, b, c], _ => exact ⟨a, b, c, rfl⟩
  have h := fl50
  rw [hf] at h ⊢
  simp at h
  simp [Op.eqFields, go_sem, h, Tryd.underlying9, Tryd.underlying2]
theorem row3_cells {W : World} {B t : Nat} {v : Value} {f g : List UInt8 → Int} {l : List (List UInt8)} {n : Nat} (hn : l.length = n) (h : W.ownsRow B t 3 v n (balC f g l)) {i : Nat} (hi : i < l.length) : ∃ q c, v = .slice (some ⟨q, 0, none⟩) n c ∧ W.rangeAt q (i * 3) [encStr l[i], .int .i64 (f l[i]), .int .i64 (g l[i])] := by
  rcases h.2 with ⟨_, h2⟩ | ⟨q, cap, cur, e, hB, hh, hc, hm, hcs, ht⟩
  · omega
  · refine ⟨q, cap, e, fun j u hu => ?_⟩
    have hj : j < 3 := by
      have := (List.getElem?_eq_some_iff.1 hu).1
      simpa using this
    have hgen : ∀ (l : List (List UInt8)) (i : Nat) (hi : i < l.length), (balC f g l)[i * 3 + j]? = ([encStr l[i], .int .i64 (f l[i]), .int .i64 (g l[i])] : List Value)[j]? := by
      intro l
      induction l with
      | nil => intro i hi; simp at hi
      | cons x l ih =>
        intro i hi
        have e0 : balC f g (x :: l) = [encStr x, .int .i64 (f x), .int .i64 (g x)] ++ balC f g l := by simp [balC]
        rw [e0]
        cases i with
        | zero =>
          rw [List.getElem?_append_left (by simp; omega)]
          simp
        | succ i =>
          rw [List.getElem?_append_right (by simp; omega)]
          have e1 : (i + 1) * 3 + j - ([encStr x, .int .i64 (f x), .int .i64 (g x)] : List Value).length = i * 3 + j := by simp; omega
          rw [e1, ih i (by simpa using hi)]
          simp
    have h3 := hgen l i hi
    rw [hu] at h3
    have hk2 : (cur.toList.take (n * 3))[i * 3 + j]? = some u := by rw [ht]; exact h3
    rw [List.getElem?_take_of_lt (by omega)] at hk2
    unfold World.cell?
    simp only [hh]
    simpa using hk2
def s50 (x y : Value) : Sem Unit := Instr.storeAt 50 x y
theorem s50_is (x y : Value) : Instr.storeAt 50 x y = s50 x y := rfl
set_option maxRecDepth 100000 in
theorem run_s50 (W : World) (a b c : Value) (s : ByteArray) (x y : Int) : (s50 (.pointer (some ⟨W.heap.size, 0, none⟩)) (.agg #[.string s, .int .i64 x, .int .i64 y])).run Tryd.prog (W.alloc (.cells #[a, b, c] 50)) = .ok () (W.alloc (.cells #[.string s, .int .i64 x, .int .i64 y] 50)) := by
  unfold s50
  simp [go_sem]
theorem row3_at {W : World} {B t q c : Nat} {f g : List UInt8 → Int} {l : List (List UInt8)} {n : Nat} (hn : l.length = n) (h : W.ownsRow B t 3 (.slice (some ⟨q, 0, none⟩) n c) n (balC f g l)) {i : Nat} (hi : i < l.length) : W.cell? ⟨q, i * 3, none⟩ = some (encStr l[i]) ∧ W.cell? ⟨q, i * 3 + 1, none⟩ = some (.int .i64 (f l[i])) ∧ W.cell? ⟨q, i * 3 + 2, none⟩ = some (.int .i64 (g l[i])) := by
  obtain ⟨q', c', e, r⟩ := row3_cells hn h hi
  have e2 : q = q' := by
    injection e with e
    injection e with e
    injection e
  subst e2
  exact ⟨r 0 _ rfl, r 1 _ rfl, r 2 _ rfl⟩
theorem ws_nil (f : List UInt8 → Int) {x : Int} (h : isA x) : ws f x [] = x := by
  unfold ws
  rw [show x + sm f [] = x from by simp [sm]]
  exact wrap_isA h
end Go.Proofs.YtgohddimnphbkaaDoor
