import Derived.Test.YtpeebhddpmggdaaDoorBckC
import Derived.Test.YtpeebhddpmggdaaDoorTie
import Derived.Test.YtpeebhddpmggdaaDoorCards
import Derived.Deep.Slices
import Derived.ShutString
import Derived.ChangeOld
import Derived.SizedLaws
import Derived.Handy
import Derived.Lay
import Derived.Lib.LaidTab
import Derived.Stop.LaidErr
import Derived.SevenTiedAt
import Derived.Deep.DeepHandedRow
namespace Go.Proofs.YtpeebhddpmggdaaDoor.storeBack
open Go.ChangeShapes Go.WideShapes Go.ChangeAt Go.RowKit Go.Deep
set_option linter.unusedVariables false

theorem own : ownKnob Tryd.prog.godebug = none := by kernel_rfl
theorem laidOut : laidOutB Tryd.prog = true := by kernel_rfl
theorem plainMet {W : World} (h : laidMetH Tryd.prog Rows.storeBackUptoRow.laid W) : laidMet Tryd.prog Rows.storeBackUptoRow.laid W := by
  rw [MakeChecks.laidMetH_plain _ _ _ (by kernel_rfl)] at h
  exact h
theorem tab_same : (Rows.laid_daybook_checksum_steps : DataW Unit) = Lib.tabData .u32 stl := by kernel_rfl
theorem tab {W : World} (h : laidMetH Tryd.prog Rows.storeBackUptoRow.laid W) : Stp W := by
  have h1 : laidMet Tryd.prog (("daybook/checksum.steps", Rows.laid_daybook_checksum_steps) :: []) W := plainMet h
  rw [tab_same] at h1
  exact Lib.tabIs_of_head (g := 0) (t := 38) (e := 32) (n := 16) (by kernel_rfl) (by kernel_rfl) Tryd.underlying38 Tryd.underlying32 (by kernel_rfl) (by kernel_rfl) h1

theorem one_le {H : Type} (d : DataW H) : 1 ≤ Rows.uptoBulk d := by
  cases d with
  | lit l => cases l <;> simp [Rows.uptoBulk]
  | nil => simp [Rows.uptoBulk]
  | ptr d => simp [Rows.uptoBulk]
  | slice elems spare => simp [Rows.uptoBulk]
  | agg parts => simp [Rows.uptoBulk]
  | iface t d => simp [Rows.uptoBulk]
  | map entries => simp [Rows.uptoBulk]
  | held h => simp [Rows.uptoBulk]
theorem bulk_len {H : Type} (l : List (DataW H)) : l.length ≤ Rows.uptoBulkAll l := by
  induction l with
  | nil => simp [Rows.uptoBulkAll]
  | cons x r ih => have := one_le x; simp only [Rows.uptoBulkAll, List.length_cons]; omega
theorem bulk_slice {H : Type} (elems spare : List (DataW H)) : elems.length ≤ Rows.uptoBulk (.slice elems spare) := by
  have h1 := bulk_len elems
  simp only [Rows.uptoBulk]
  omega
/-- bytes that were read -/
theorem bytes_lie {W : World} {b off len cap : Nat} {zs : List Int} (hz : zs.length = cap) (hl : len ≤ cap) (hcell : ∀ i, i < zs.length → W.cell? ((⟨b, off, none⟩ : Addr).add i) = some (.int .u8 (zs.getD i 0))) (hwz : ∀ n ∈ zs, (Lit.int .u8 n).wf = true) :
    BLies (fun k => (zs.getD k 0).toNat % 256) (.slice (some ⟨b, off, none⟩) len cap) len W := by
  have hb8 : ∀ k, 0 ≤ zs.getD k 0 ∧ zs.getD k 0 < 256 := fun k => by
    by_cases hk : k < zs.length
    · have h1 := hwz _ (List.getElem_mem hk)
      have : zs.getD k 0 = zs[k] := by simp [List.getD, hk]
      rw [this]
      simp [Lit.wf, IntKind.min, IntKind.max, IntKind.signed] at h1
      have e8 : (2 : Int) ^ IntKind.u8.bits = 256 := by decide
      omega
    · simp [List.getD, List.getElem?_eq_none (Nat.not_lt.1 hk)]
  refine .inr ⟨b, off, cap, rfl, fun h0 => ?_, fun k hk => ?_⟩
  · have := hcell 0 (by omega)
    exact World.block_lt_of_cell? W _ this
  · have h1 := hcell k (by omega)
    rw [Addr.add_mid] at h1
    rw [h1]
    have := hb8 k
    have e : (((zs.getD k 0).toNat % 256 : Nat) : Int) = zs.getD k 0 := by omega
    show some (Value.int .u8 (zs.getD k 0)) = some (Value.int .u8 (((zs.getD k 0).toNat % 256 : Nat) : Int))
    rw [e]
theorem spot_none {W : World} {base t e : Nat} {x : Addr} {len cap : Nat} (ht : Tryd.prog.underlying t = some (.slice e)) (hok : Value.okWide Tryd.prog W .any base t (.slice (some x) len cap)) : x.spot = none := by
  have h1 : Cell.okWide Tryd.prog W .any base t (.slice (some x) len cap) := by
    have h2 := hok
    unfold Value.okWide at h2
    rw [ht] at h2
    exact h2
  unfold Cell.okWide at h1
  rw [ht] at h1
  simp only [Cell.ok, ht, World.has] at h1
  exact h1.2.2.2.1
set_option maxRecDepth 100000 in
/-- a parameter that is a list of bytes, opened -/
theorem open_bytes {H : Type} {enc : TypeId × Value → H} {W : World} {base : Nat} {v : Value} {d : DataW H} {p : List MemPlace} (hok : Value.okWide Tryd.prog W .any base 23 v)
    (h : ∃ fuel, DataW.trod enc Tryd.prog W 0 (fun _ => true) true fuel 23 v.cells.toList = some (d, p)) :
    ∃ a0 len cap f, v = .slice a0 len cap ∧ len ≤ cap ∧ BLies f (.slice a0 len cap) len W ∧ (∀ k, f k < 256) ∧ len ≤ Rows.uptoBulk d := by
  obtain ⟨a0, len0, cap0, rfl⟩ := okWide_slice Tryd.underlying23 hok
  obtain ⟨fuel, hf⟩ := h
  rcases open_ints Tryd.underlying23 Tryd.underlying5 (by kernel_rfl) hf with ⟨hcs, _⟩ | ⟨x, l, c, zs, hcs, hb, hl, hm, hz, hx, hcell, hwz⟩
  · simp [Value.cells] at hcs
    obtain ⟨rfl, rfl, rfl⟩ := hcs
    exact ⟨none, 0, 0, fun _ => 0, rfl, Nat.le_refl _, .inl ⟨rfl, rfl⟩, fun _ => by show 0 < 256; omega, by omega⟩
  · simp [Value.cells] at hcs
    obtain ⟨rfl, rfl, rfl⟩ := hcs
    have hz' : zs.length = cap0 := by simpa using hz
    have hspot := spot_none Tryd.underlying23 hok
    obtain ⟨b, off, sp⟩ := x
    simp only at hspot
    subst hspot
    refine ⟨_, _, _, fun k => (zs.getD k 0).toNat % 256, rfl, hl, bytes_lie hz' hl hcell hwz, fun k => Nat.mod_lt _ (by decide), ?_⟩
    rw [(Prod.mk.inj hx).1]
    refine Nat.le_trans ?_ (bulk_slice _ _)
    simp only [lits, List.length_map, List.length_take]
    omega
/-- a list of bytes in a list -/
theorem open_in {H : Type} {enc : TypeId × Value → H} {W : World} {fuel : Nat} {v : Value} {x : DataW H × List MemPlace} (h : DataW.trod enc Tryd.prog W 0 (fun _ => true) true fuel 23 [v] = some x) :
    ∃ q : Option Addr × Nat × Nat × (Nat → Nat), v = .slice q.1 q.2.1 q.2.2.1 ∧ q.2.1 ≤ q.2.2.1 ∧ SIn (fun k => q.2.2.2 k % 256) q.1 q.2.1 q.2.2.1 W := by
  rcases open_ints Tryd.underlying23 Tryd.underlying5 (by kernel_rfl) h with ⟨hcs, _⟩ | ⟨x, l, c, zs, hcs, hb, hl, hm, hz, hx, hcell, hwz⟩
  · simp only [List.cons.injEq, and_true] at hcs
    exact ⟨(none, 0, 0, fun _ => 0), hcs, Nat.le_refl _, .inr (.inl ⟨rfl, rfl⟩)⟩
  · simp only [List.cons.injEq, and_true] at hcs
    have hz' : zs.length = c := by simpa using hz
    refine ⟨(some x, l, c, fun k => (zs.getD k 0).toNat), hcs, hl, ?_⟩
    by_cases h0 : l = 0
    · exact .inl ⟨h0, x, rfl⟩
    · have hs : x.spot = none := by simpa [Addr.add] using World.cell?_spot (hcell 0 (by omega))
      obtain ⟨b, off, sp⟩ := x
      simp only at hs
      subst hs
      exact .inr (bytes_lie hz' hl hcell hwz)
set_option maxRecDepth 100000 in
/-- a parameter that is a list of such lists, opened -/
theorem open_lists {H : Type} {enc : TypeId × Value → H} {W : World} {base : Nat} {v : Value} {d : DataW H} {p : List MemPlace} (hok : Value.okWide Tryd.prog W .any base 22 v)
    (h : ∃ fuel, DataW.trod enc Tryd.prog W 0 (fun _ => true) true fuel 22 v.cells.toList = some (d, p)) :
    ∃ pu K cu, ∃ (rp : Nat → Option Addr) (ln rc : Nat → Nat) (r : Nat → Nat → Nat), v = .slice pu K cu ∧ VLies (fun j => .slice (rp j) (ln j) (rc j)) (.slice pu K cu) K W ∧ (∀ j, j < K → ln j ≤ rc j ∧ SIn (r j) (rp j) (ln j) (rc j) W) ∧ (∀ j k, r j k < 256) ∧ K ≤ Rows.uptoBulk d := by
  obtain ⟨a0, len0, cap0, rfl⟩ := okWide_slice Tryd.underlying22 hok
  obtain ⟨fuel, hf⟩ := h
  rcases open_slice1 Tryd.underlying22 (by kernel_rfl) hf with ⟨hcs, _⟩ | ⟨a, len, cap, m, n, V, D, Pl, hcs, hb, hl, hm, hmm, hx, hall⟩
  · simp [Value.cells] at hcs
    obtain ⟨rfl, rfl, rfl⟩ := hcs
    exact ⟨none, 0, 0, fun _ => none, fun _ => 0, fun _ => 0, fun _ _ => 0, rfl, .inl ⟨rfl, rfl⟩, fun j hj => by omega, fun _ _ => by show 0 < 256; omega, by omega⟩
  · simp [Value.cells] at hcs
    obtain ⟨rfl, rfl, rfl⟩ := hcs
    have hmm' : m = cap0 := by simpa using hmm
    have hspot := spot_none Tryd.underlying22 hok
    obtain ⟨b, off, sp⟩ := a
    simp only at hspot
    subst hspot
    have hq : ∀ i, i < len0 → ∃ q : Option Addr × Nat × Nat × (Nat → Nat), V i = .slice q.1 q.2.1 q.2.2.1 ∧ q.2.1 ≤ q.2.2.1 ∧ SIn (fun k => q.2.2.2 k % 256) q.1 q.2.1 q.2.2.1 W := fun i hi => open_in (hall i (by omega)).2
    obtain ⟨Q, hQ⟩ := choose_lt (α := Option Addr × Nat × Nat × (Nat → Nat)) hq
    refine ⟨_, _, _, fun j => (Q j).1, fun j => (Q j).2.1, fun j => (Q j).2.2.1, fun j k => (Q j).2.2.2 k % 256, rfl, .inr ⟨b, off, cap0, rfl, fun j hj => ?_⟩, fun j hj => ⟨(hQ j hj).2.1, (hQ j hj).2.2⟩, fun j k => Nat.mod_lt _ (by decide), ?_⟩
    · have h1 := (hall j (by omega)).1
      rw [Addr.add_mid] at h1
      rw [h1, (hQ j hj).1]
    · rw [(Prod.mk.inj hx).1]
      refine Nat.le_trans ?_ (bulk_slice _ _)
      simp

set_option maxRecDepth 100000 in
theorem contract (H : Type) (enc : TypeId × Value → H) (W : World) (base : Nat) (args : Array Value) (ds gs : List (DataW H)) (before : List MemPlace)
    (hval0 : ∀ (j : Nat) t v, Tryd.f3.params[j]? = some t → args[j]? = some v → Value.okWide Tryd.prog W .any base t v)
    (hW : DataW.Whole enc Tryd.prog Tryd.f3.params.toList Rows.storeBackSpec.vars false W args.toList ds gs before) (hL : laidMetH Tryd.prog Rows.storeBackUptoRow.laid W) (hk : Rows.uptoSmall H (ds ++ gs) = true) :
    Calls Tryd.prog 3 args W fun e W' => ∃ v, e = .returned v ∧ Rows.storeBackSpec.post enc Tryd.prog Tryd.f3 false true false false W args v W' := by
  have hval : ∀ (j : Nat) t v, Tryd.f3.params[j]? = some t → args[j]? = some v → Value.okWide Tryd.prog W .any base t v := hval0
  have hW' := hW
  obtain ⟨p, q, hA0, hV, rfl, hfz, hnd⟩ := hW
  have hA : DataW.TrodAll enc Tryd.prog W 0 (fun _ => true) true Tryd.f3.params.toList args.toList ds p := hA0
  rw [Tryd.params3] at hA hval
  obtain ⟨v0, vs0, d0, ds0, p0, q0, hargs, rfl, rfl, h0, r0⟩ := trodAll_cons hA
  obtain ⟨v1, vs1, d1, ds1, p1, q1, hargs1, rfl, rfl, h1, r1⟩ := trodAll_cons r0
  obtain ⟨v2, vs2, d2, ds2, p2, q2, hargs2, rfl, rfl, h2, r2⟩ := trodAll_cons r1
  obtain ⟨rfl, rfl, rfl⟩ := trodAll_nil r2
  obtain rfl : args = #[v0, v1, v2] := by cases args; simp_all
  obtain ⟨rfl, rfl⟩ := trodVars_none hV
  have hbulk : Rows.uptoBulkAll ([d0, d1, d2] ++ []) ≤ 1048576 := of_decide_eq_true hk
  simp only [List.append_nil, Rows.uptoBulkAll, Nat.add_zero] at hbulk
  have lt0 : ∀ x ∈ p0, x.block < W.heap.size := by obtain ⟨m, hm⟩ := h0; exact DataW.trod_lt m _ _ _ hm
  have lt1 : ∀ x ∈ p1, x.block < W.heap.size := by obtain ⟨m, hm⟩ := h1; exact DataW.trod_lt m _ _ _ hm
  have lt2 : ∀ x ∈ p2, x.block < W.heap.size := by obtain ⟨m, hm⟩ := h2; exact DataW.trod_lt m _ _ _ hm
  obtain ⟨pu, K, cu, rp, ln, rc, r, e0, l0, s0, b0, z0⟩ := open_lists (hval 0 22 v0 rfl rfl) h0
  obtain ⟨ct, e1, hd1, hpl1, hct⟩ := open_int Tryd.underlying3 (hval 1 3 v1 rfl rfl) h1
  obtain ⟨a2, n2, c2, f2, e2, hc2, l2, b2, z2⟩ := open_bytes (hval 2 23 v2 rfl rfl) h2
  clear hA0 hval0
  subst e0 e1 e2
  refine (back_walk K pu cu rp ln rc r (by omega) W l0 s0 b0 ct (bounds_i64 hct) f2 b2 a2 n2 c2 hc2 (by omega) l2 (tab hL)).mono fun e W' ⟨he, bel⟩ => ?_
  subst he
  exact ⟨_, rfl, _, _, _, [], _, [], hW', trodAll_mk1 (shut_bool Tryd.underlying4 _), (trodAll_cons_mk (Below.trod laidOut (by kernel_rfl) (of_decide_eq_true (by kernel_rfl)) h0 bel lt0) (trodAll_cons_mk (Below.trod laidOut (by kernel_rfl) (of_decide_eq_true (by kernel_rfl)) h1 bel lt1) (trodAll_cons_mk (Below.trod laidOut (by kernel_rfl) (of_decide_eq_true (by kernel_rfl)) h2 bel lt2) trodAll_mk0))), rfl, bel.frame _, fun h => by cases h⟩

theorem laid_met (os : Os) : laidMetH Tryd.prog Rows.storeBackUptoRow.laid ((World.laidAll Tryd.prog os Rows.storeBackUptoRow.laid).forCall (fun _ _ => 0) ⟨#[], #[.slice none 0 0, .int .i64 0, .slice none 0 0], []⟩).memory := by
  rw [MakeChecks.laidMetH_plain _ _ _ (by kernel_rfl)]
  exact laidMet_laidAll _ (by kernel_rfl) (by kernel_rfl)
theorem reads (os : Os) {H : Type} (enc : TypeId × Value → H) : ∃ places, DataW.whole enc Tryd.prog ((World.laidAll Tryd.prog os Rows.storeBackUptoRow.laid).forCall (fun _ _ => 0) ⟨#[], #[.slice none 0 0, .int .i64 0, .slice none 0 0], []⟩).memory Tryd.f3.params.toList Rows.storeBackSpec.vars false #[Value.slice none 0 0, .int .i64 0, .slice none 0 0].toList 8 = some ([.nil, .lit (.int .i64 0), .nil], [], places) :=
  ⟨[], by kernel_rfl⟩

set_option maxRecDepth 100000 in
theorem lifted (os : Os) (started : os.Started) (H : Type) (enc : TypeId × Value → H) (F : Stop.Interp) :
    ReturnsInHanded {} Tryd.checked os 3 .any ((Rows.OpenSpec.upto Rows.storeBackSpec).preRow enc Tryd.prog Tryd.f3 Rows.storeBackUptoRow.domain false Rows.storeBackUptoRow.laid) (((Rows.OpenSpec.upto Rows.storeBackSpec).at F).post enc Tryd.prog Tryd.f3 false true false false) := by
  obtain ⟨places, hx⟩ := reads os enc
  refine returnsInHanded_of_row (C := Tryd.checked) (s := Rows.OpenSpec.upto Rows.storeBackSpec) own started (by kernel_rfl) Tryd.func3
    (witness_row_at (enc := enc) (C := Tryd.checked) false (World.laidAll Tryd.prog os Rows.storeBackUptoRow.laid) #[.slice none 0 0, .int .i64 0, .slice none 0 0] (World.laidAll_os _ _ _) (by kernel_rfl) (by kernel_rfl) (by kernel_rfl)
      (OpenSpec.preRow_of_cond 8 hx (by kernel_rfl) (fun k hk => by cases hk; kernel_rfl) (by kernel_rfl) (laid_met os))) ?_
  intro W base args ds gs before hval hW _ hcond _ hL _ _
  exact contract H enc W base args ds gs before hval hW hL (hcond _ rfl)

theorem over : Rows.StoreBackUptoSaid :=
  OpenClaim.holds_of_cond 3 Tryd.f3 rfl rfl rfl rfl rfl rfl rfl ⟨rfl, rfl, rfl, rfl, rfl⟩ rfl rfl rfl rfl rfl (by kernel_rfl) Tryd.func3 (by kernel_rfl)
    (of_decide_eq_true (by kernel_rfl)) (by unfold Func.isWrapper; first | (rw [if_pos (by decide +kernel)]; kernel_rfl) | (rw [if_neg (by decide +kernel)]; exact ⟨rfl, rfl⟩))
    (fun os started H enc _ F => by rw [OpenClaim.pre_eq_preRow]; exact lifted os started H enc F)
theorem plain (f : FuncId) (fn : Func) (hf : Tryd.pinned.checked.prog.funcNamed "daybook/daybooklaw04.StoreBack" = some f) (hfn : Tryd.pinned.checked.prog.funcs[f]? = some fn) :
    false = Tryd.pinned.checked.prog.looks [] ∧ ∀ (j : Nat) t, fn.params[j]? = some t → Tryd.pinned.checked.prog.wantsStandIn t = false := by
  obtain rfl : f = 3 := Option.some.inj ((show Tryd.prog.funcNamed "daybook/daybooklaw04.StoreBack" = some 3 by kernel_rfl).symm.trans hf) |>.symm
  obtain rfl : fn = Tryd.f3 := (Option.some.inj (Tryd.func3.symm.trans hfn)).symm
  refine ⟨by kernel_rfl, fun j t ht => ?_⟩
  rw [Tryd.params3] at ht
  have hm : t ∈ [22, 3, 23] := by simpa using Array.mem_of_getElem? ht
  have hall : ([22, 3, 23].all fun u => !Tryd.prog.wantsStandIn u) = true := by kernel_rfl
  exact (show Tryd.prog.wantsStandIn t = false by simpa using List.all_eq_true.1 hall t hm)
end Go.Proofs.YtpeebhddpmggdaaDoor.storeBack
namespace Go.Proofs.YtpeebhddpmggdaaDoor
theorem storeBack_uptocard : Rows.StoreBackUptoCardSaid :=
  Claim7.holds_tied_plain_at .later [] _ _ _ _ storeBack.over (fun _ h => by cases h) (by kernel_rfl) (fun _ h => by cases h) storeBackUpto_row_tie rfl ⟨rfl, rfl⟩ (by kernel_rfl) rfl storeBack.plain (by kernel_rfl)
#print axioms storeBack_uptocard
end Go.Proofs.YtpeebhddpmggdaaDoor
