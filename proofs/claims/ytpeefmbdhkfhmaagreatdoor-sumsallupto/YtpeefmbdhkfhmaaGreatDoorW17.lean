import Derived.Test.YtpeefmbdhkfhmaaGreatDoorW16
import Derived.Test.YtpeefmbdhkfhmaaGreatDoorW07
/- sums: a view as the rows that it was told. -/
namespace Go.Proofs.YtpeefmbdhkfhmaaGreatDoor
open Go Go.RowKit Go.Shelf Go.ChangeShapes Go.WideShapes Go.ChangeAt Go.Maps Go.Sort
set_option linter.unusedVariables false
def DEB (L : Rows8) : Int := deb L (nub (L.map (·.1)))
def CRE (L : Rows8) : Int := cre L (nub (L.map (·.1)))
theorem own_in (L : Rows8) : ∀ k, own L k ≠ 0 → k ∈ nub (L.map (·.1)) := fun k h => by
  rw [mem_nub]
  refine Classical.byContradiction fun hn => h (own_none fun r hr e => hn ?_)
  exact List.mem_map.2 ⟨r, hr, e⟩
theorem DEB_nonneg (L : Rows8) : 0 ≤ DEB L := deb_nonneg _ _
theorem CRE_nonneg (L : Rows8) : 0 ≤ CRE L := cre_nonneg _ _
theorem own_bd (L : Rows8) (k : List UInt8) : -CRE L ≤ own L k ∧ own L k ≤ DEB L := by
  have h1 := own_le (own_in L) k
  have h2 := own_ge (own_in L) k
  exact ⟨by unfold CRE; omega, h1⟩
theorem roll_bd (L : Rows8) (k : List UInt8) : -CRE L ≤ roll ups L k ∧ roll ups L k ≤ DEB L := ⟨roll_ge ups L (nodup_nub _) (own_in L) k, roll_le ups L (nodup_nub _) (own_in L) k⟩
theorem DEB_same {L M : Rows8} (h : ∀ k, own L k = own M k) : DEB L = DEB M := deb_same (nodup_nub _) (nodup_nub _) (own_in L) (own_in M) h
theorem CRE_same {L M : Rows8} (h : ∀ k, own L k = own M k) : CRE L = CRE M := cre_same (nodup_nub _) (nodup_nub _) (own_in L) (own_in M) h
theorem newV_own (L R : Rows8) (k : List UInt8) : newV (own L) R k = own (L ++ R) k := by rw [newV, own_append]
theorem DEB_more (L R : Rows8) : DEB L + sm (fun k => pos (newV (own L) R k) - pos (own L k)) (nub (R.map (·.1))) = DEB (L ++ R) := by
  have h := deb_more L R (nodup_nub _) (nodup_nub _) (nodup_nub (R.map (·.1))) (own_in L) (own_in (L ++ R)) (fun r hr => by rw [mem_nub]; exact List.mem_map.2 ⟨r, hr, rfl⟩)
  unfold DEB
  rw [h]
  congr 1
  exact sm_congr fun k _ => by rw [newV_own]
theorem CRE_more (L R : Rows8) : CRE L + sm (fun k => neg (newV (own L) R k) - neg (own L k)) (nub (R.map (·.1))) = CRE (L ++ R) := by
  have h := cre_more L R (nodup_nub _) (nodup_nub _) (nodup_nub (R.map (·.1))) (own_in L) (own_in (L ++ R)) (fun r hr => by rw [mem_nub]; exact List.mem_map.2 ⟨r, hr, rfl⟩)
  unfold CRE
  rw [h]
  congr 1
  exact sm_congr fun k _ => by rw [newV_own]
/-- both sides are amounts -/
def fits (L : Rows8) : Prop := DEB L ≤ 9223372036854775807 ∧ CRE L ≤ 9223372036854775807
theorem fits_own {L : Rows8} (h : fits L) (k : List UInt8) : isA (own L k) := by
  have := own_bd L k
  have := h.1
  have := h.2
  exact ⟨by omega, by omega⟩
theorem fits_roll {L : Rows8} (h : fits L) (k : List UInt8) : isA (roll ups L k) := by
  have := roll_bd L k
  have := h.1
  have := h.2
  exact ⟨by omega, by omega⟩
theorem wrap_isA {x : Int} (h : isA x) : IntKind.i64.wrap x = x := by rw [IntKind.wrap_i64]; omega
theorem tw_iff (L R : Rows8) : twOK (own L) R (DEB L) (CRE L) ↔ fits (L ++ R) := by
  unfold twOK
  rw [DEB_more, CRE_more]
  constructor
  · rintro ⟨_, h1, h2⟩
    exact ⟨h1.2, h2.2⟩
  · intro h
    have h1 := DEB_nonneg (L ++ R)
    have h2 := CRE_nonneg (L ++ R)
    exact ⟨fun k _ => by rw [newV_own]; exact fits_own h k, ⟨by omega, h.1⟩, ⟨by omega, h.2⟩⟩
/-- the rows' names can be -/
def named (L : Rows8) : Prop := ∀ r ∈ L, nameL r.1 = true ∧ r.1.length < 4611686018427387904
theorem named_own {L : Rows8} (h : named L) : ∀ k, own L k ≠ 0 → nameL k = true ∧ k.length < 4611686018427387904 := fun k hk => by
  have := own_in L k hk
  rw [mem_nub] at this
  obtain ⟨r, hr, rfl⟩ := List.mem_map.1 this
  exact h r hr
/-- a view told the rows L -/
structure View (W : World) (d : Nat) (mo mr : Option Nat) (n : Nat) (L : Rows8) : Prop where
  at' : SumsAt W d mo mr n (own L) (roll ups L) (DEB L) (CRE L)
  ok : fits L
  nm : named L
theorem View.below {W W' : World} {d : Nat} {mo mr : Option Nat} {n : Nat} {L : Rows8} (h : View W d mo mr n L) (hb : Below W.heap.size W W') : View W' d mo mr n L := ⟨h.at'.below hb, h.ok, h.nm⟩
theorem View.block {W W' : World} {d : Nat} {mo mr : Option Nat} {n : Nat} {L : Rows8} (h : View W d mo mr n L) (hb : ∀ k, Blk d mo mr k → W'.heap[k]? = W.heap[k]?) : View W' d mo mr n L := ⟨h.at'.block hb, h.ok, h.nm⟩
theorem View.made (w : World) (n : Nat) : View (w.alloc (.cells #[.map none, .map none, .int .i64 0, .int .i64 0] 82)) w.heap.size none none n [] :=
  ⟨new_at w n, ⟨by decide, by decide⟩, fun r h => by cases h⟩
/-- what Apply leaves of a view -/
def VwOut (W : World) (d : Nat) (mo mr : Option Nat) (n : Nat) (L : Rows8) (R : List Ro) (e : Ending) (W' : World) : Prop :=
  (¬ ((∀ r ∈ R, okRow r) ∧ fits (L ++ rws R)) ∧ (∃ x : Int, e = .returned (.int .i64 x) ∧ (x = 1 ∨ x = 11)) ∧ Below W.heap.size W W') ∨
  ((∀ r ∈ R, okRow r) ∧ e = .returned (.int .i64 0) ∧ ∃ mo' mr', View W' d mo' mr' (n + 7 * R.length) (L ++ rws R) ∧ Stp W W' d mo mr mo' mr')
theorem apply_view {W : World} {d : Nat} {mo mr : Option Nat} {n : Nat} {L : Rows8} (h : View W d mo mr n L) (hn : n ≤ 1152921504606846976) {p : Option Addr} {cR : Nat} {R : List Ro} (hN : R.length ≤ 8388608) (hR : RowsAt W p R) (hpd : ∀ q, p = some ⟨q, 0, none⟩ → q ≠ d)
    (hacc : ∀ r ∈ R, r.acc.size < 4611686018427387904) (hamt : ∀ r ∈ R, -9223372036854775808 ≤ r.amt ∧ r.amt ≤ 9223372036854775807) :
    Calls Tryz.prog 16 #[.pointer (some ⟨d, 0, none⟩), .slice p R.length cR] W fun e W' => VwOut W d mo mr n L R e W' := by
  have h1 := DEB_nonneg L
  have h2 := CRE_nonneg L
  refine (apply_any d mo mr n (own L) (roll ups L) (DEB L) (CRE L) W h.at' (fits_own h.ok) ⟨by omega, h.ok.1⟩ ⟨by omega, h.ok.2⟩ p R.length cR R rfl hN hn hR hpd hacc hamt).mono ?_
  rintro e W' (⟨hno, rfl, hb⟩ | ⟨hok, hno, rfl, hb⟩ | ⟨hok, hyes, rfl, hva⟩)
  · exact .inl ⟨fun q => hno q.1, ⟨1, rfl, .inl rfl⟩, hb⟩
  · exact .inl ⟨fun q => hno ((tw_iff _ _).2 q.2), ⟨11, rfl, .inr rfl⟩, hb⟩
  · have hf := (tw_iff _ _).1 hyes
    obtain ⟨mo', mr', hs, hfr, hnew⟩ := hva
    refine .inr ⟨hok, rfl, mo', mr', ⟨?_, hf, fun r hr => ?_⟩, hfr, hnew⟩
    · rw [DEB_more, CRE_more] at hs
      have e1 : (fun k => IntKind.i64.wrap (own L k + own (rws R) k)) = own (L ++ rws R) := funext fun k => by
        rw [← own_append]; exact wrap_isA (fits_own hf k)
      have e2 : (fun k => IntKind.i64.wrap (roll ups L k + roll ups (rws R) k)) = roll ups (L ++ rws R) := funext fun k => by
        rw [← roll_append]; exact wrap_isA (fits_roll hf k)
      rw [e1, e2] at hs
      exact hs
    · rcases List.mem_append.1 hr with hr | hr
      · exact h.nm r hr
      · obtain ⟨q, hq, rfl⟩ := List.mem_map.1 hr
        exact ⟨(hok q hq).1, hacc q hq⟩
/-- the names that State tells -/
def heldBy (L : Rows8) (k : List UInt8) : Prop := ∃ x, own L x ≠ 0 ∧ k ∈ x :: ups x
/-- a list of balances that State has handed out -/
structure Bal (W : World) (B : Nat) (L : Rows8) (v : Value) (hs : List (List UInt8)) : Prop where
  nd : hs.Nodup
  mem : ∀ k, k ∈ hs ↔ heldBy L k
  row : W.ownsRow B 38 3 v hs.length (balC (own L) (roll ups L) (srt hs))
theorem state_view {W : World} {d : Nat} {mo mr : Option Nat} {n : Nat} {L : Rows8} (h : View W d mo mr n L) (hn : n ≤ 68719476736) :
    Calls Tryz.prog 18 #[.pointer (some ⟨d, 0, none⟩)] W fun e W' => ∃ v hs, e = .returned v ∧ Bal W' W.heap.size L v hs ∧ hs.length ≤ 6 * n ∧ Below W.heap.size W W' := by
  refine (state_any d mo mr n hn _ _ _ _ W h.at' (named_own h.nm)).mono ?_
  rintro e W' ⟨v, hs, rfl, hnd, hmem, hlen, hrow, hb⟩
  exact ⟨v, hs, rfl, ⟨hnd, hmem, hrow⟩, hlen, hb⟩
theorem Bal.same {W : World} {B B' : Nat} {L M : Rows8} {v v' : Value} {hs hs' : List (List UInt8)} (h : Bal W B L v hs) (h' : Bal W B' M v' hs') (e : ∀ k, own L k = own M k) : hs.length = hs'.length ∧ balC (own L) (roll ups L) (srt hs) = balC (own M) (roll ups M) (srt hs') := by
  have hm : ∀ k, k ∈ hs ↔ k ∈ hs' := fun k => by
    rw [h.mem, h'.mem]
    unfold heldBy
    simp only [e]
  have e1 : srt hs = srt hs' := srt_eq h.nd h'.nd hm
  have e2 : own L = own M := funext e
  have e3 : roll ups L = roll ups M := funext fun k => roll_own ups e k
  refine ⟨?_, by rw [e1, e2, e3]⟩
  have := congrArg List.length e1
  rwa [srt_len, srt_len] at this
theorem Bal.keep {W W' : World} {B : Nat} {L : Rows8} {v : Value} {hs : List (List UInt8)} (h : Bal W B L v hs) (hk : ∀ g, v.ownBlock = some g → W'.heap[g]? = W.heap[g]?) : Bal W' B L v hs := ⟨h.nd, h.mem, row_keep h.row hk⟩
end Go.Proofs.YtpeefmbdhkfhmaaGreatDoor
/- The document's sums: lists of names and of amounts; Insert (94). -/
namespace Go.Proofs.YtpeefmbdhkfhmaaGreatDoor.Kg
open Go Go.Shelf Go.ChangeShapes Go.WideShapes Go.ChangeAt Go.RowKit Go.Maps
set_option linter.unusedVariables false
set_option linter.unusedSimpArgs false
def kS : Kd ByteArray := ⟨fun s => [.string s], 1, 83, 9, 16⟩
theorem kS_ok : KdOK kS := kd_ok (fun _ => rfl) (by decide) (fun x u hu => by simp [kS] at hu; rw [hu]; rfl) Tryz.underlying83 (z := .string ⟨#[]⟩) (by kernel_rfl) rfl (by decide)
def kN : Kd Int := ⟨fun x => [.int .i64 x], 1, 84, 2, 8⟩
theorem kN_ok : KdOK kN := kd_ok (fun _ => rfl) (by decide) (fun x u hu => by simp [kN] at hu; rw [hu]; rfl) Tryz.underlying84 (z := .int .i64 0) (by kernel_rfl) rfl (by decide)
/-- a list that the call has made since wb -/
structure Ml {α : Type} (K : Kd α) (wb w : World) (v : Value) (M : List α) : Prop where
  row : w.ownsRow wb.heap.size K.e K.s v M.length (K.flat M)
  bel : Below wb.heap.size wb w
theorem Ml.below {α : Type} {K : Kd α} {wb w w' : World} {v : Value} {M : List α} (h : Ml K wb w v M) (hb : Below w.heap.size w w') : Ml K wb w' v M :=
  ⟨row_keep h.row (fun b e => hb.block b (row_block h.row e).2.1), h.bel.trans (hb.mono h.bel.size)⟩
theorem Ml.nil {α : Type} (K : Kd α) {wb w : World} (h : Below wb.heap.size wb w) : Ml K wb w (.slice none 0 0) [] := ⟨World.ownsRow_nil _ _ _ _, h⟩
/-- one more behind it -/
theorem Ml.more {α : Type} {K : Kd α} (hK : KdOK K) {wb w : World} {v : Value} {M : List α} (h : Ml K wb w v M) (hl : M.length < 1099511627776) (x : α) (vs : Array Value) (hv : vs.toList = K.enc x) (ty t : TypeId) :
    ∃ p' c' w', (Builtin.append_ #[K.t, K.t] ty #[v, .slice (some ⟨w.heap.size, 0, none⟩) 1 1]).run Tryz.prog (w.alloc (.cells vs t)) = .ok (.slice p' (M.length + 1) c') w' ∧ Ml K wb w' (.slice p' (M.length + 1) c') (M ++ [x]) := by
  obtain ⟨Z, hZ⟩ : ∃ Z, Z = w.alloc (.cells vs t) := ⟨_, rfl⟩
  have hZ1 : Below w.heap.size w Z := by rw [hZ]; exact (Below.refl _ _).alloc (Nat.le_refl _) _
  have hu : Lies K Z (some ⟨w.heap.size, 0, none⟩) [x] := by rw [hZ]; exact one_lies w x t _ hv
  have hm := h.below hZ1
  obtain ⟨p', c', w', hr, ho, hb, _, _⟩ := run_app hK ty (W := Z) (B := wb.heap.size) (M := [x]) hm.row hm.bel.size (some ⟨w.heap.size, 0, none⟩) 1 (fun h => by cases h) hu (by simp; omega)
  simp only [List.length_singleton] at hr ho
  rw [← hZ]
  exact ⟨p', c', w', hr, ⟨by rw [List.length_append, List.length_singleton]; exact ho, hm.bel.trans hb⟩⟩
/-- a name put into a rising list: what a round makes of the list and of 'done' -/
def insS (x : ByteArray) (s : List ByteArray × Bool) (y : ByteArray) : List ByteArray × Bool :=
  if s.2 = true ∨ y = x then (s.1 ++ [y], true) else if x.data.toList < y.data.toList then (s.1 ++ [x] ++ [y], true) else (s.1 ++ [y], false)
def insF (x : ByteArray) (L : List ByteArray) : List ByteArray × Bool := L.foldl (insS x) ([], false)
def insL (L : List ByteArray) (x : ByteArray) : List ByteArray := if (insF x L).2 = true then (insF x L).1 else (insF x L).1 ++ [x]
theorem insF_succ (x : ByteArray) {L : List ByteArray} {i : Nat} (hi : i < L.length) : insF x (L.take (i + 1)) = insS x (insF x (L.take i)) L[i] := by
  unfold insF
  rw [List.take_succ_eq_append_getElem hi, List.foldl_append]
  rfl
theorem str_ne {x s : ByteArray} (h : ¬ x = s) : (x.toList == s.toList) = false := by
  rw [ByteArray.toList_eq, ByteArray.toList_eq, beq_eq_false_iff_ne]
  intro e
  apply h
  cases x; cases s
  simp only [ByteArray.mk.injEq]
  exact Array.toList_inj.1 e
theorem str_lt (x y : ByteArray) : Op.bytesLess x.toList y.toList = decide (x.data.toList < y.data.toList) := by rw [bytesLess_eq, ByteArray.toList_eq, ByteArray.toList_eq]
structure InsAt (W wr : World) (v5 : Value) (x : ByteArray) (L : List ByteArray) (i : Nat) (d : Bool) (M : List ByteArray) : Prop where
  ml : Ml kS W wr v5 M
  at' : insF x (L.take i) = (M, d)
  len : M.length ≤ i + (if d = true then 1 else 0)
set_option maxRecDepth 100000 in
set_option maxHeartbeats 8000000 in
theorem ins_any {W : World} {p : Option Addr} {c n : Nat} {L : List ByteArray} (hn : L.length = n) (hl : n < 1099511627770) (hL : Lies kS W p L) (x : ByteArray) :
    Calls Tryz.prog 94 #[.slice p n c, .string x] W fun e w' => ∃ p' c', e = .returned (.slice p' (insL L x).length c') ∧ Ml kS W w' (.slice p' (insL L x).length c') (insL L x) := by
  have HN := hide hn; have HL := hide hL
  clear hn hL
  go_enter Tryz.func94, Tryz.ntmps94
  go_wp2_with fail
  go_loopw [5, 6, 7] (fun v5 v6 v7 wr => ∃ (i m : Nat) (p5 : Option Addr) (c5 : Nat) (d : Bool), v7 = .int .i64 i ∧ v6 = .bool d ∧ v5 = .slice p5 m c5 ∧ i ≤ n ∧ Hid (∃ M : List ByteArray, M.length = m ∧ InsAt W wr v5 x L i d M)) (fun _ _ v7 _ => n - (intOf v7).toNat)
  case atStart => exact ⟨0, 0, none, 0, false, rfl, rfl, rfl, by omega, [], rfl, Ml.nil _ (Below.refl _ _), rfl, by simp⟩
  case round =>
    obtain ⟨i, m, p5, c5, d, rfl, rfl, rfl, hi, hrel⟩ := hrel
    obtain ⟨M, hM, hat⟩ := unhide hrel
    by_cases hlt : i < n
    · have hiL : i < L.length := by rw [unhide HN]; exact hlt
      obtain ⟨b, off, e, hbl, hr⟩ := (unhide HL).2 i hiL
      obtain ⟨y, hy⟩ : ∃ y, y = L[i] := ⟨_, rfl⟩
      have hst := insF_succ x hiL
      rw [← hy, hat.at'] at hst
      rw [← hy] at hr
      have kW : W.cell? ⟨b, off + i, none⟩ = some (.string y) := by
        have := hr 0 _ rfl
        simpa [kS] using this
      have k0 : wr.cell? ⟨b, off + i, none⟩ = some (.string y) := keep1 hat.ml.bel hbl kW
      subst e
      have hI : (i : Int) < (n : Int) := by omega
      have hI0 : (0 : Int) ≤ (i : Int) := by omega
      have hlm := hat.len
      have hm1 : M.length < 1099511627772 := by split at hlm <;> omega
      by_cases hyx : y = x
      · subst hyx
        have hbt : (y.toList == y.toList) = true := by simp
        obtain ⟨p', c', w8, hr8, hm8⟩ := hat.ml.more kS_ok (by omega) y #[.string y] rfl 83 9
        have hst2 : insS y (M, d) y = (M ++ [y], true) := by unfold insS; rw [if_pos (.inr rfl)]
        have HN8 : Hid (∃ M' : List ByteArray, M'.length = m + 1 ∧ InsAt W w8 (.slice p' (m + 1) c') y L (i + 1) true M') := ⟨M ++ [y], by rw [List.length_append, hM]; rfl, by rw [← hM]; exact hm8, by rw [hst, hst2], by rw [List.length_append, List.length_singleton, if_pos rfl]; split at hlm <;> omega⟩
        rw [hM] at hr8
        have HR8 := hide hr8
        clear hr hbl hiL hy hst hat hrel hM hlm hm1 hr8 hm8 hst2 kW
        go_wp2_with (first | (at_builtin; refine wpList_append_run rfl _ _ 83 rfl _ _ _ _ rfl rfl (unhide HR8) ?_))
        go_round
        case rel => exact ⟨i + 1, m + 1, p', c', true, by push_cast; rfl, rfl, rfl, by omega, unhide HN8⟩
        case measure => simp only [intOf]; omega
      · have hne := str_ne hyx
        have hlt9 := str_lt x y
        cases d with
        | true =>
          obtain ⟨p', c', w8, hr8, hm8⟩ := hat.ml.more kS_ok (by omega) y #[.string y] rfl 83 9
          have hst2 : insS x (M, true) y = (M ++ [y], true) := by unfold insS; rw [if_pos (.inl rfl)]
          have HN8 : Hid (∃ M' : List ByteArray, M'.length = m + 1 ∧ InsAt W w8 (.slice p' (m + 1) c') x L (i + 1) true M') := ⟨M ++ [y], by rw [List.length_append, hM]; rfl, by rw [← hM]; exact hm8, by rw [hst, hst2], by rw [List.length_append, List.length_singleton, if_pos rfl]; rw [if_pos rfl] at hlm; omega⟩
          rw [hM] at hr8
          have HR8 := hide hr8
          clear hr hbl hiL hy hst hat hrel hM hlm hm1 hr8 hm8 hst2 kW hyx hlt9
          go_wp2_with (first | (at_builtin; refine wpList_append_run rfl _ _ 83 rfl _ _ _ _ rfl rfl (unhide HR8) ?_))
          go_round
          case rel => exact ⟨i + 1, m + 1, p', c', true, by push_cast; rfl, rfl, rfl, by omega, unhide HN8⟩
          case measure => simp only [intOf]; omega
        | false =>
          by_cases hxy : x.data.toList < y.data.toList
          · rw [decide_eq_true hxy] at hlt9
            obtain ⟨p', c', w8, hr8, hm8⟩ := hat.ml.more kS_ok (by omega) x #[.string x] rfl 83 9
            have k8 : w8.cell? ⟨b, off + i, none⟩ = some (.string y) := keep1 hm8.bel hbl kW
            obtain ⟨p9, c9, w9, hr9, hm9⟩ := hm8.more kS_ok (by rw [List.length_append, List.length_singleton]; omega) y #[.string y] rfl 83 9
            have hst2 : insS x (M, false) y = (M ++ [x] ++ [y], true) := by unfold insS; rw [if_neg (by simp [hyx]), if_pos hxy]
            have el : (M ++ [x]).length = m + 1 := by rw [List.length_append, hM]; rfl
            rw [el] at hr9 hm9
            have HN9 : Hid (∃ M' : List ByteArray, M'.length = m + 1 + 1 ∧ InsAt W w9 (.slice p9 (m + 1 + 1) c9) x L (i + 1) true M') := ⟨M ++ [x] ++ [y], by rw [List.length_append, el]; rfl, hm9, by rw [hst, hst2], by rw [List.length_append, el, List.length_singleton, if_pos rfl]; rw [if_neg (by simp)] at hlm; omega⟩
            rw [hM] at hr8 hr9
            have HR8 := hide hr8; have HR9 := hide hr9
            clear hr hbl hiL hy hst hat hrel hM hlm hm1 hr8 hm8 hst2 kW hyx hxy hr9 hm9 el
            go_wp2_with (first | (at_builtin; first | refine wpList_append_run rfl _ _ 83 rfl _ _ _ _ rfl rfl (unhide HR8) ?_ | refine wpList_append_run rfl _ _ 83 rfl _ _ _ _ rfl rfl (unhide HR9) ?_))
            go_round
            case rel => exact ⟨i + 1, m + 1 + 1, p9, c9, true, by push_cast; rfl, rfl, rfl, by omega, unhide HN9⟩
            case measure => simp only [intOf]; omega
          · rw [decide_eq_false hxy] at hlt9
            obtain ⟨p', c', w8, hr8, hm8⟩ := hat.ml.more kS_ok (by omega) y #[.string y] rfl 83 9
            have hst2 : insS x (M, false) y = (M ++ [y], false) := by unfold insS; rw [if_neg (by simp [hyx]), if_neg hxy]
            have HN8 : Hid (∃ M' : List ByteArray, M'.length = m + 1 ∧ InsAt W w8 (.slice p' (m + 1) c') x L (i + 1) false M') := ⟨M ++ [y], by rw [List.length_append, hM]; rfl, by rw [← hM]; exact hm8, by rw [hst, hst2], by rw [List.length_append, List.length_singleton, if_neg (by simp)]; rw [if_neg (by simp)] at hlm; omega⟩
            rw [hM] at hr8
            have HR8 := hide hr8
            clear hr hbl hiL hy hst hat hrel hM hlm hm1 hr8 hm8 hst2 kW hyx hxy
            go_wp2_with (first | (at_builtin; refine wpList_append_run rfl _ _ 83 rfl _ _ _ _ rfl rfl (unhide HR8) ?_))
            go_round
            case rel => exact ⟨i + 1, m + 1, p', c', false, by push_cast; rfl, rfl, rfl, by omega, unhide HN8⟩
            case measure => simp only [intOf]; omega
    · have hin : i = n := by omega
      have hI : ¬ (i : Int) < (n : Int) := by omega
      have hat' := hat.at'
      rw [hin, ← unhide HN, List.take_length] at hat'
      have hlm := hat.len
      cases d with
      | true =>
        have hfin : insL L x = M := by unfold insL; rw [hat', if_pos rfl]
        have HF : Hid (∃ p' c', Ending.returned (.slice p5 m c5) = .returned (.slice p' (insL L x).length c') ∧ Ml kS W wr (.slice p' (insL L x).length c') (insL L x)) := by
          rw [hfin, hM]
          exact ⟨p5, c5, rfl, hat.ml⟩
        clear hat hrel hM hlm hat' hfin
        go_wp2_with fail
        go_ret
        exact unhide HF
      | false =>
        obtain ⟨p', c', w8, hr8, hm8⟩ := hat.ml.more kS_ok (by rw [if_neg (by simp)] at hlm; omega) x #[.string x] rfl 83 9
        have hfin : insL L x = M ++ [x] := by unfold insL; rw [hat', if_neg (by simp)]
        have HF : Hid (∃ q' d', Ending.returned (.slice p' (m + 1) c') = .returned (.slice q' (insL L x).length d') ∧ Ml kS W w8 (.slice q' (insL L x).length d') (insL L x)) := by
          rw [hfin, List.length_append, hM]
          exact ⟨p', c', rfl, by rw [← hM]; exact hm8⟩
        rw [hM] at hr8
        have HR8 := hide hr8
        clear hat hrel hM hlm hat' hfin hr8 hm8
        go_wp2_with (first | (at_builtin; refine wpList_append_run rfl _ _ 83 rfl _ _ _ _ rfl rfl (unhide HR8) ?_))
        go_ret
        exact unhide HF
end Go.Proofs.YtpeefmbdhkfhmaaGreatDoor.Kg
/- The document's sums: Above (93). -/
namespace Go.Proofs.YtpeefmbdhkfhmaaGreatDoor.Kg
open Go Go.Shelf Go.ChangeShapes Go.WideShapes Go.ChangeAt Go.RowKit Go.Maps
set_option linter.unusedVariables false
set_option linter.unusedSimpArgs false
/-- the names that stand ahead of the first i signs' colons -/
def abvF (s : ByteArray) (i : Nat) : List ByteArray := (List.range i).flatMap fun k => if s.data.toList[k]? = some 58 then [s.extract 0 k] else []
def abvL (s : ByteArray) : List ByteArray := abvF s s.size ++ [s]
theorem abvF_succ (s : ByteArray) (i : Nat) : abvF s (i + 1) = abvF s i ++ (if s.data.toList[i]? = some 58 then [s.extract 0 i] else []) := by
  unfold abvF
  rw [List.range_succ, List.flatMap_append]
  simp
theorem abvF_len (s : ByteArray) (i : Nat) : (abvF s i).length ≤ i := by
  induction i with
  | zero => simp [abvF]
  | succ i ih =>
    rw [abvF_succ, List.length_append]
    split
    · simp; omega
    · simp; omega
set_option maxRecDepth 100000 in
set_option maxHeartbeats 8000000 in
theorem above_any (W : World) (s : ByteArray) (hs : s.size < 1099511627000) :
    Calls Tryz.prog 93 #[.string s] W fun e w' => ∃ p' c', e = .returned (.slice p' (abvL s).length c') ∧ Ml kS W w' (.slice p' (abvL s).length c') (abvL s) := by
  obtain ⟨n, hn⟩ : ∃ n, n = s.size := ⟨_, rfl⟩
  have HN := hide hn
  go_enter Tryz.func93, Tryz.ntmps93
  go_wp2_with fail
  go_loopw [3, 4] (fun v3 v4 wr => ∃ (i m : Nat) (p3 : Option Addr) (c3 : Nat), v4 = .int .i64 i ∧ v3 = .slice p3 m c3 ∧ i ≤ s.size ∧ Hid ((abvF s i).length = m ∧ Ml kS W wr v3 (abvF s i))) (fun _ v4 _ => s.size - (intOf v4).toNat)
  case atStart => exact ⟨0, 0, none, 0, rfl, rfl, by omega, rfl, Ml.nil _ (Below.refl _ _)⟩
  case round =>
    obtain ⟨i, m, p3, c3, rfl, rfl, hi, hrel⟩ := hrel
    obtain ⟨hm, hml⟩ := unhide hrel
    have hlm := abvF_len s i
    rw [hm] at hlm
    have hst := abvF_succ s i
    by_cases hlt : i < s.size
    · have hI : (i : Int) < (s.size : Int) := by omega
      have hI0 : (0 : Int) ≤ (i : Int) := by omega
      have hget : s.data.toList[i]? = some (s[i]) := by
        rw [List.getElem?_eq_getElem (by exact hlt)]
        rfl
      rw [hget] at hst
      by_cases h3 : s[i] = 58
      · rw [if_pos (by rw [h3])] at hst
        have hc' : (s[i]).toNat = 58 := by rw [h3]; rfl
        obtain ⟨p', c', w8, hr8, hm8⟩ := hml.more kS_ok (by omega) (s.extract 0 i) #[.string (s.extract 0 i)] rfl 83 9
        have HN8 : Hid ((abvF s (i + 1)).length = m + 1 ∧ Ml kS W w8 (.slice p' (m + 1) c') (abvF s (i + 1))) := by
          rw [hst]
          exact ⟨by rw [List.length_append, hm]; rfl, by rw [← hm]; exact hm8⟩
        rw [hm] at hr8
        have HR8 := hide hr8
        clear hst hrel hm hml hlm hr8 hm8 hget h3 hn
        go_wp2_with (first | (at_builtin; refine wpList_append_run rfl _ _ 83 rfl _ _ _ _ rfl rfl (unhide HR8) ?_))
        go_round
        case rel => exact ⟨i + 1, m + 1, p', c', by push_cast; rfl, rfl, by omega, unhide HN8⟩
        case measure => simp only [intOf]; omega
      · rw [if_neg (by simpa using h3), List.append_nil] at hst
        have hne : ((s[i]).toNat : Int) ≠ 58 := fun e => h3 (by
          refine UInt8.toNat_inj.1 ?_
          have : (s[i]).toNat = 58 := by omega
          rw [this]
          rfl)
        have hnb : (((s[i]).toNat : Int) == 58) = false := by simpa using hne
        have HN8 : Hid ((abvF s (i + 1)).length = m ∧ Ml kS W wr (.slice p3 m c3) (abvF s (i + 1))) := by
          rw [hst]
          exact ⟨hm, hml⟩
        clear hst hrel hm hml hlm hget h3 hne hn
        go_wp2_with fail
        go_round
        case rel => exact ⟨i + 1, m, p3, c3, by push_cast; rfl, rfl, by omega, unhide HN8⟩
        case measure => simp only [intOf]; omega
    · have hin : i = s.size := by omega
      have hI : ¬ (i : Int) < (s.size : Int) := by omega
      obtain ⟨p', c', w8, hr8, hm8⟩ := hml.more kS_ok (by omega) s #[.string s] rfl 83 9
      have HF : Hid (∃ q' d', Ending.returned (.slice p' (m + 1) c') = .returned (.slice q' (abvL s).length d') ∧ Ml kS W w8 (.slice q' (abvL s).length d') (abvL s)) := by
        have e : abvL s = abvF s i ++ [s] := by unfold abvL; rw [hin]
        rw [e, List.length_append, hm]
        exact ⟨p', c', rfl, by rw [← hm]; exact hm8⟩
      rw [hm] at hr8
      have HR8 := hide hr8
      clear hst hrel hm hml hlm hr8 hm8 hin hn
      go_wp2_with (first | (at_builtin; refine wpList_append_run rfl _ _ 83 rfl _ _ _ _ rfl rfl (unhide HR8) ?_))
      go_ret
      exact unhide HF
end Go.Proofs.YtpeefmbdhkfhmaaGreatDoor.Kg
