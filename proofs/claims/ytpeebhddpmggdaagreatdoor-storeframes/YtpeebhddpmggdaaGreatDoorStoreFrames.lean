import Derived.Test.YtpeebhddpmggdaaGreatDoorLawB
import Derived.Test.YtpeebhddpmggdaaGreatDoorTie
import Derived.Test.YtpeebhddpmggdaaGreatDoorCards
import Derived.ShutString
import Derived.ChangeOld
import Derived.SizedLaws
import Derived.Handy
import Derived.Lay
import Derived.Lib.LaidTab
import Derived.Stop.LaidErr
import Derived.SevenTiedAt
import Derived.Deep.DeepHandedRow
namespace Go.Proofs.YtpeebhddpmggdaaGreatDoor.storeFrames
open Go.ChangeShapes Go.WideShapes Go.ChangeAt Go.RowKit
set_option linter.unusedVariables false

theorem own : ownKnob Tryz.prog.godebug = none := by kernel_rfl
theorem laidOut : laidOutB Tryz.prog = true := by kernel_rfl
theorem bytes5 : Tryz.prog.bytesOf 5 = 1 := by kernel_rfl
theorem plainMet {W : World} (h : laidMetH Tryz.prog Rows.storeFramesRow.laid W) : laidMet Tryz.prog Rows.storeFramesRow.laid W := by
  rw [MakeChecks.laidMetH_plain _ _ _ (by kernel_rfl)] at h
  exact h
theorem tab_same : (Rows.laid_daybook_checksum_steps : DataW Unit) = Lib.tabData .u32 stl := by kernel_rfl
theorem tab {W : World} (h : laidMetH Tryz.prog Rows.storeFramesRow.laid W) : Stp W := by
  have h1 : laidMet Tryz.prog (("daybook/checksum.steps", Rows.laid_daybook_checksum_steps) :: [("math/bits.deBruijn32tab", Rows.laid_math_bits_deBruijn32tab), ("math/bits.deBruijn64tab", Rows.laid_math_bits_deBruijn64tab), ("internal/strconv.uint64pow10", Rows.laid_internal_strconv_uint64pow10)]) W := plainMet h
  rw [tab_same] at h1
  exact Lib.tabIs_of_head (g := 0) (t := 147) (e := 120) (n := 16) (by kernel_rfl) (by kernel_rfl) Tryz.underlying147 Tryz.underlying120 (by kernel_rfl) (by kernel_rfl) h1
set_option maxRecDepth 100000 in
/-- a parameter that is a list of bytes, opened -/
theorem open_bytes {H : Type} {enc : TypeId × Value → H} {W : World} {base j : Nat} {v : Value} {d : DataW H} {p : List MemPlace} {ts : List TypeId} {ds : List (DataW H)} (hok : Value.okWide Tryz.prog W .any base 27 v)
    (h : ∃ fuel, DataW.trod enc Tryz.prog W 0 (fun _ => true) true fuel 27 v.cells.toList = some (d, p)) (hsz : (DataW.weightsEach Tryz.prog ts ds).all (· ≤ reachBytes) = true) (hj : ts[j]? = some 27) (hd : ds[j]? = some d) :
    ∃ a0 len cap f, v = .slice a0 len cap ∧ BLies f (.slice a0 len cap) len W ∧ (∀ k, f k < 256) ∧ len ≤ 140737488351232 := by
  obtain ⟨a0, len0, cap0, rfl⟩ := okWide_slice Tryz.underlying27 hok
  obtain ⟨fuel, hf⟩ := h
  rcases open_ints Tryz.underlying27 Tryz.underlying5 (by kernel_rfl) hf with ⟨hcs, _⟩ | ⟨x, l, c, zs, hcs, hb, hl, hm, hz, hx, hcell, hwz⟩
  · simp [Value.cells] at hcs
    obtain ⟨rfl, rfl, rfl⟩ := hcs
    exact ⟨none, 0, 0, fun _ => 0, rfl, .inl ⟨rfl, rfl⟩, fun _ => by show 0 < 256; omega, by omega⟩
  · simp [Value.cells] at hcs
    obtain ⟨rfl, rfl, rfl⟩ := hcs
    have hz' : zs.length = cap0 := by simpa using hz
    have hb8 : ∀ k, 0 ≤ zs.getD k 0 ∧ zs.getD k 0 < 256 := fun k => by
      by_cases hk : k < zs.length
      · have h1 := hwz _ (List.getElem_mem hk)
        have : zs.getD k 0 = zs[k] := by simp [List.getD, hk]
        rw [this]
        simp [Lit.wf, IntKind.min, IntKind.max, IntKind.signed] at h1
        have e8 : (2 : Int) ^ IntKind.u8.bits = 256 := by decide
        omega
      · simp [List.getD, List.getElem?_eq_none (Nat.not_lt.1 hk)]
    have hspot : x.spot = none := by
      have h1 : Cell.okWide Tryz.prog W .any base 27 (.slice (some x) len0 cap0) := by
        have h2 := hok
        unfold Value.okWide at h2
        rw [Tryz.underlying27] at h2
        exact h2
      unfold Cell.okWide at h1
      rw [Tryz.underlying27] at h1
      simp only [Cell.ok, Tryz.underlying27, World.has] at h1
      exact h1.2.2.2.1
    obtain ⟨b, off, sp⟩ := x
    simp only at hspot
    subst hspot
    refine ⟨_, _, _, fun k => (zs.getD k 0).toNat, rfl, .inr ⟨b, off, cap0, rfl, fun h0 => ?_, fun k hk => ?_⟩, fun k => by have := hb8 k; show (zs.getD k 0).toNat < 256; omega, ?_⟩
    · have := hcell 0 (by omega)
      exact World.block_lt_of_cell? W _ this
    · have h1 := hcell k (by omega)
      rw [Addr.add_mid] at h1
      rw [h1]
      have := hb8 k
      have e : ((zs.getD k 0).toNat : Int) = zs.getD k 0 := by omega
      show some (Value.int .u8 (zs.getD k 0)) = some (Value.int .u8 ((zs.getD k 0).toNat : Int))
      rw [e]
    · have hd0 := (Prod.mk.inj hx).1
      rw [hd0] at hd
      have hw := sized_slice hsz (j := j) (t := 27) (e := 5) hj hd Tryz.underlying27
      rw [bytes5] at hw
      simp only [lits, List.length_map, List.length_take, List.length_drop, reachBytes] at hw
      omega

set_option maxRecDepth 100000 in
theorem contract (H : Type) (enc : TypeId × Value → H) (W : World) (base : Nat) (args : Array Value) (ds gs : List (DataW H)) (before : List MemPlace)
    (hval0 : ∀ (j : Nat) t v, Tryz.f7.params[j]? = some t → args[j]? = some v → Value.okWide Tryz.prog W .any base t v)
    (hW : DataW.Whole enc Tryz.prog Tryz.f7.params.toList Rows.storeFramesSpec.vars false W args.toList ds gs before)
    (hsz0 : (DataW.weightsEach Tryz.prog (Tryz.f7.params.toList ++ Rows.storeFramesSpec.plain.varTypes Tryz.prog) (ds ++ gs)).all (· ≤ reachBytes) = true) (hL : laidMetH Tryz.prog Rows.storeFramesRow.laid W) :
    Calls Tryz.prog 7 args W fun e W' => ∃ v, e = .returned v ∧ Rows.storeFramesSpec.post enc Tryz.prog Tryz.f7 false true false false W args v W' := by
  have hval : ∀ (j : Nat) t v, Tryz.f7.params[j]? = some t → args[j]? = some v → Value.okWide Tryz.prog W .any base t v := hval0
  have hsz := hsz0
  have hW' := hW
  obtain ⟨p, q, hA0, hV, rfl, hfz, hnd⟩ := hW
  have hA : DataW.TrodAll enc Tryz.prog W 0 (fun _ => true) true Tryz.f7.params.toList args.toList ds p := hA0
  rw [Tryz.params7] at hA hval hsz
  obtain ⟨v0, vs0, d0, ds0, p0, q0, hargs, rfl, rfl, h0, r0⟩ := trodAll_cons hA
  obtain ⟨v1, vs1, d1, ds1, p1, q1, hargs1, rfl, rfl, h1, r1⟩ := trodAll_cons r0
  obtain ⟨rfl, rfl, rfl⟩ := trodAll_nil r1
  obtain rfl : args = #[v0, v1] := by cases args; simp_all
  obtain ⟨rfl, rfl⟩ := trodVars_none hV
  have lt0 : ∀ x ∈ p0, x.block < W.heap.size := by obtain ⟨m, hm⟩ := h0; exact DataW.trod_lt m _ _ _ hm
  have lt1 : ∀ x ∈ p1, x.block < W.heap.size := by obtain ⟨m, hm⟩ := h1; exact DataW.trod_lt m _ _ _ hm
  obtain ⟨a0, n0, c0, f0, e0, l0, b0, s0⟩ := open_bytes (j := 0) (hval 0 27 v0 rfl rfl) h0 hsz rfl rfl
  obtain ⟨a1, n1, c1, f1, e1, l1, b1, s1⟩ := open_bytes (j := 1) (hval 1 27 v1 rfl rfl) h1 hsz rfl rfl
  clear hA0 hval0
  subst e0 e1
  refine (frames_walk f0 f1 b0 b1 a0 a1 n0 n1 c0 c1 W l0 l1 s0 s1 (tab hL)).mono fun e W' ⟨he, bel⟩ => ?_
  subst he
  exact ⟨_, rfl, _, _, _, [], _, [], hW', trodAll_mk1 (shut_bool Tryz.underlying4 _), (trodAll_cons_mk (Below.trod laidOut (by kernel_rfl) (of_decide_eq_true (by kernel_rfl)) h0 bel lt0) (trodAll_cons_mk (Below.trod laidOut (by kernel_rfl) (of_decide_eq_true (by kernel_rfl)) h1 bel lt1) trodAll_mk0)), rfl, bel.frame _, fun h => by cases h⟩

theorem laid_met (os : Os) : laidMetH Tryz.prog Rows.storeFramesRow.laid ((World.laidAll Tryz.prog os Rows.storeFramesRow.laid).forCall (fun _ _ => 0) ⟨#[], #[.slice none 0 0, .slice none 0 0], []⟩).memory := by
  rw [MakeChecks.laidMetH_plain _ _ _ (by kernel_rfl)]
  exact laidMet_laidAll _ (by kernel_rfl) (by kernel_rfl)
theorem reads (os : Os) {H : Type} (enc : TypeId × Value → H) : ∃ places, DataW.whole enc Tryz.prog ((World.laidAll Tryz.prog os Rows.storeFramesRow.laid).forCall (fun _ _ => 0) ⟨#[], #[.slice none 0 0, .slice none 0 0], []⟩).memory Tryz.f7.params.toList Rows.storeFramesSpec.vars false #[Value.slice none 0 0, .slice none 0 0].toList 8 = some ([.nil, .nil], [], places) :=
  ⟨[], by kernel_rfl⟩

set_option maxRecDepth 100000 in
theorem lifted (os : Os) (started : os.Started) (H : Type) (enc : TypeId × Value → H) (F : Stop.Interp) :
    ReturnsInHanded {} Tryz.checked os 7 .any ((OpenSpec.ofChange Rows.storeFramesSpec).preRow enc Tryz.prog Tryz.f7 Rows.storeFramesRow.domain false Rows.storeFramesRow.laid) (((OpenSpec.ofChange Rows.storeFramesSpec).at F).post enc Tryz.prog Tryz.f7 false true false false) := by
  obtain ⟨places, hx⟩ := reads os enc
  refine returnsInHanded_of_row (C := Tryz.checked) (s := OpenSpec.ofChange Rows.storeFramesSpec) own started (by kernel_rfl) Tryz.func7
    (witness_row_at (enc := enc) (C := Tryz.checked) false (World.laidAll Tryz.prog os Rows.storeFramesRow.laid) #[.slice none 0 0, .slice none 0 0] (World.laidAll_os _ _ _) (by kernel_rfl) (by kernel_rfl) (by kernel_rfl)
      (OpenSpec.preRow_of_cond 8 hx (by kernel_rfl) (fun k hk => by cases hk) (by kernel_rfl) (laid_met os))) ?_
  intro W base args ds gs before hval hW _ _ hsz hL _ _
  exact contract H enc W base args ds gs before hval hW hsz hL

theorem fa : (Rows.storeFramesRow.inPlace == Tryz.prog.inPlace 7) = true := by kernel_rfl
theorem fb : (Rows.storeFramesRow.unfollowed == Tryz.prog.unfollowed 7) = true := by kernel_rfl
theorem fc : (Rows.storeFramesRow.recurses == Tryz.prog.recurses 7) = true := by kernel_rfl
theorem fd : (Rows.storeFramesRow.named == Tryz.prog.varsNamed 7) = true := by kernel_rfl
theorem closed : joinedFacts Tryz.prog 7 Tryz.f7 (OpenSpec.ofChange Rows.storeFramesSpec).bare Rows.storeFramesRow = true := by
  unfold joinedFacts
  rw [fa, fb, fc, fd]
  kernel_rfl
theorem over : Rows.StoreFramesSaid :=
  OpenClaim.holds_of_cond 7 Tryz.f7 rfl rfl rfl rfl rfl rfl rfl ⟨rfl, rfl, rfl, rfl, rfl⟩ rfl rfl rfl rfl rfl (by kernel_rfl) Tryz.func7 closed
    (of_decide_eq_true (by kernel_rfl)) (by unfold Func.isWrapper; first | (rw [if_pos (by decide +kernel)]; kernel_rfl) | (rw [if_neg (by decide +kernel)]; exact ⟨rfl, rfl⟩))
    (fun os started H enc _ F => by rw [OpenClaim.pre_eq_preRow]; exact lifted os started H enc F)
theorem plain (f : FuncId) (fn : Func) (hf : Tryz.pinned.checked.prog.funcNamed "daybook/daybooklaw04.StoreFrames" = some f) (hfn : Tryz.pinned.checked.prog.funcs[f]? = some fn) :
    true = Tryz.pinned.checked.prog.looks [] ∧ ∀ (j : Nat) t, fn.params[j]? = some t → Tryz.pinned.checked.prog.wantsStandIn t = false := by
  obtain rfl : f = 7 := Option.some.inj ((show Tryz.prog.funcNamed "daybook/daybooklaw04.StoreFrames" = some 7 by kernel_rfl).symm.trans hf) |>.symm
  obtain rfl : fn = Tryz.f7 := (Option.some.inj (Tryz.func7.symm.trans hfn)).symm
  refine ⟨by kernel_rfl, fun j t ht => ?_⟩
  rw [Tryz.params7] at ht
  have hm : t ∈ [27, 27] := by simpa using Array.mem_of_getElem? ht
  have hall : ([27, 27].all fun u => !Tryz.prog.wantsStandIn u) = true := by kernel_rfl
  exact (show Tryz.prog.wantsStandIn t = false by simpa using List.all_eq_true.1 hall t hm)
end Go.Proofs.YtpeebhddpmggdaaGreatDoor.storeFrames
namespace Go.Proofs.YtpeebhddpmggdaaGreatDoor
theorem storeFrames_card : Rows.StoreFramesCardSaid :=
  Claim7.holds_tied_plain_at .later [] _ _ _ _ storeFrames.over (fun _ h => by cases h) (by kernel_rfl) (fun _ h => by cases h) storeFrames_row_tie rfl ⟨rfl, rfl⟩ (by kernel_rfl) rfl storeFrames.plain (by kernel_rfl)
#print axioms storeFrames_card
end Go.Proofs.YtpeebhddpmggdaaGreatDoor
