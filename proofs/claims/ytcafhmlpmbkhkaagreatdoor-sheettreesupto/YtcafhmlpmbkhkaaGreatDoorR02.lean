import Derived.RangeFuncOne
import Derived.RangeFuncStops
import Derived.RangeFuncCalls
import Derived.RangeFuncLeaves
import Derived.RangeFuncBox
import Derived.Shelf.Abstract
import Derived.Stop.RegionWithIn
import Derived.OwnWalkIn
import Derived.TacticsInMore
import Derived.LoopNIn
import Derived.LoopIn
import Derived.Shelf.SlIter.Collect
import Derived.RangeFuncFrom
import Derived.RangeFuncNested
import Derived.Sort.Walk0
import Derived.Deep.LoopGhost
import Derived.RangeFuncBound
import Derived.RangeFuncWrites
import Derived.Test.YtcafhmlpmbkhkaaGreatDoorR01
namespace Go.Proofs.YtcafhmlpmbkhkaaGreatDoor.Ch
open Go Go.RowKit Go.Shelf Go.ChangeShapes Go.WideShapes Go.ChangeAt Go.Maps
set_option linter.unusedVariables false
attribute [local go_sem] Oper.semAt_some
def strV : Value → Nat
  | .string s => s.size
  | _ => 0
def upM (v3 v4 : Value) : Nat := match v4 with
  | .bool true => 1 + strV v3
  | _ => 0
def UpAt (s : ByteArray) (J : List (List UInt8) → World → Prop) (v3 v4 : Value) (wr : World) : Prop :=
  ∃ (pre : List (List UInt8)) (u : ByteArray) (more : Bool), v3 = .string u ∧ v4 = .bool more ∧ J pre wr ∧ u.size < 4611686018427387904 ∧ (more = true → nameL u.data.toList = true ∧ pathL s.data.toList = pre ++ u.data.toList :: ups u.data.toList) ∧ (more = false → pre = pathL s.data.toList)
set_option maxRecDepth 100000 in
set_option maxHeartbeats 4000000 in
theorem up_stops (s : ByteArray) (hs : s.size < 4611686018427387904) (B : Nat) (w : World) (hB : w.cell? ⟨B, 0, none⟩ = some (.string s)) (n : Nat) (hn : 1 ≤ n) :
    SeqStops Fence.wide n Tryz.prog 271 #[.pointer (some ⟨B, 0, none⟩)] encStr (fun xs => xs = pathL s.data.toList) (fun pre => pre <+: pathL s.data.toList) 6 w := by
  intro l J Jx W hW hJ hJx hY h0
  have hbox : W.cell? ⟨B, 0, none⟩ = some (.string s) := (hW.cell (p := ⟨B, 0, none⟩) (World.block_lt_of_cell? w _ hB)).trans hB
  have HY := hide hY
  have HJ := hide hJ
  have HX := hide hJx
  have H0 := hide h0
  have dg := hide (good_any s hs)
  clear hY hJ hJx h0 hB hW
  refine callsIn_of_wp Tryz.func271 rfl trivial ?_ rfl
  simp only [Tryz.ntmps271, List.size_toArray, List.length_cons, List.length_nil, Nat.reduceAdd, Nat.reduceSub, Array.replicate_succ, Array.replicate_zero, List.push_toArray, List.append_toArray, List.nil_append, List.cons_append]
  gi_wp2_with fail
  obtain ⟨y, hy⟩ : ∃ y, y = nameL s.data.toList := ⟨_, rfl⟩
  rw [← hy] at dg
  have HN := hide hy
  clear hy
  refine wpIn_mono (Q := Exit.then (fun a' w' => a' = { tmps := #[.func (.yield l) #[] #[], .pointer (some ⟨B, 0, none⟩), undef, .string s, .bool y, .string s, .string s, .bool y, undef, undef, undef, undef, undef, undef, undef, undef, undef, undef, undef], defers := [] } ∧ Below W.heap.size W w') (fun _ _ _ => False)) ?_ ?_
  · gi_region_with ((first | (refine ⟨trivial, ?_⟩; refine (callsIn_wide.2 (unhide dg _)).mono ?_; rintro e w1 ⟨rfl, hb⟩; have hbox1 := keep1 hb (World.block_lt_of_cell? W _ hbox) hbox; have HB := hide hb; clear hb)))
    all_goals exact ⟨rfl, by have h := unhide HB; exact ⟨h.os, h.tape, h.output, h.size, h.block⟩⟩
  intro e a' w1 h
  cases e with
  | normal => ?_
  | ret => exact h.elim
  | exit _ => exact h.elim
  | goto _ => exact h.elim
  | panic _ => exact h.elim
  | outgrown => exact h.elim
  obtain ⟨rfl, hb⟩ := h
  have HB := hide hb
  clear hb
  gi_wp2_with fail
  gi_loopw [3, 4] (fun v3 v4 wr => UpAt s J v3 v4 wr) (fun v3 v4 _ => upM v3 v4)
  case atStart =>
    refine ⟨[], s, y, rfl, rfl, unhide HJ [] W w1 none (unhide H0) (grown_of_below (unhide HB)) (fun r e => by cases e), hs, fun h => ?_, fun h => ?_⟩
    · have hy := unhide HN
      rw [h] at hy
      exact ⟨hy.symm, by rw [pathL, if_pos hy.symm]; rfl⟩
    · have hy := unhide HN
      rw [h] at hy
      rw [pathL, if_neg (by rw [← hy]; simp)]
  case round =>
    obtain ⟨pre, u, more, rfl, rfl, hj, hu, ht, hf⟩ := hrel
    cases more with
    | false =>
      have hpre := hide (hf rfl)
      have HJ0 := hide hj
      clear ht hf hj
      gi_wp2_with fail
      refine ⟨fun _ h => (by cases h), ?_⟩
      gi_wp2
      go_end0
      exact ⟨⟨_, rfl⟩, .inl ⟨pre, unhide hpre, unhide HJ0⟩⟩
    | true =>
      obtain ⟨hnu, hpu⟩ := ht rfl
      have hlen : pre.length < 6 := by
        have h := path_len s.data.toList
        rw [hpu] at h
        simp at h
        omega
      obtain ⟨fn, tmps, assign, body, hy, hR⟩ := unhide HY pre u.data.toList wr hj hlen
      have he : encStr u.data.toList = .string u := by
        show Value.string ⟨u.data.toList.toArray⟩ = .string u
        rw [← text_of (x := u) rfl]
      rw [he] at hy
      have HR := hide hR
      have HNU := hide hnu
      have HPU := hide hpu
      clear ht hf hj hnu hpu hlen hR he
      gi_wp2_with fail
      refine (unhide HR).mono ?_
      rintro e W3 (⟨rfl, hJ3, hk3⟩ | ⟨rfl, hx3⟩)
      · have J3 := hide hJ3
        clear hJ3 hk3
        gi_wp2_with fail
        refine ⟨trivial, ?_⟩
        refine (callsIn_wide.2 (parent_any u hu W3)).mono ?_
        rintro e W4 ⟨rfl, hb4⟩
        have B4 := hide hb4
        clear hb4
        gi_wp2_with fail
        have hnu := unhide HNU
        have hpu := unhide HPU
        have hJ4 := unhide HJ (pre ++ [u.data.toList]) W3 W4 none (unhide J3) (grown_of_below (unhide B4)) (fun r e => by cases e)
        cases hup : ups u.data.toList with
        | nil =>
          have e1 : parS u.data.toList = (⟨#[]⟩, false) := by rw [parS, if_pos hnu, hup]
          rw [e1]
          refine ⟨⟨pre ++ [u.data.toList], ⟨#[]⟩, false, rfl, rfl, hJ4, by decide, fun h => (by cases h), fun _ => ?_⟩, by simp only [upM, strV]; omega⟩
          rw [hpu, hup]
        | cons p t =>
          have e1 : parS u.data.toList = (⟨p.toArray⟩, true) := by rw [parS, if_pos hnu, hup]
          rw [e1]
          have hpl := ups_len_lt hup
          have hps : (⟨p.toArray⟩ : ByteArray).size = p.length := by simp [ByteArray.size]
          have hc : u.data.toList.contains 58 = true := by
            by_cases hc : u.data.toList.contains 58 = true
            · exact hc
            · rw [ups_none _ (by simpa using hc)] at hup
              cases hup
          obtain ⟨j, hj, _, hu2, hn2⟩ := ups_some u hc
          rw [hu2] at hup
          injection hup with ep et
          refine ⟨⟨pre ++ [u.data.toList], ⟨p.toArray⟩, true, rfl, rfl, hJ4, by omega, fun _ => ⟨?_, ?_⟩, fun h => (by cases h)⟩, by simp only [upM, strV]; omega⟩
          · show nameL p = true
            rw [← ep]
            exact hn2 hnu
          · show _ = (pre ++ [u.data.toList]) ++ p :: ups p
            rw [hpu, hu2, List.append_assoc, ep]
            rfl
      · have X3 := hide hx3
        clear hx3
        gi_wp2_with fail
        go_end0
        refine ⟨⟨_, rfl⟩, .inr ⟨pre ++ [u.data.toList], ?_, unhide X3⟩⟩
        rw [unhide HPU]
        exact ⟨ups u.data.toList, by simp⟩
open Go Go.RowKit Go.Shelf Go.ChangeShapes Go.WideShapes Go.ChangeAt Go.Maps
set_option linter.unusedVariables false
attribute [local go_sem] Oper.semAt_some
set_option maxHeartbeats 1000000 in
theorem upwards_any (s : ByteArray) (w : World) : Calls Tryz.prog 232 #[.string s] w fun e w' => e = .returned (.func (.func 271) #[] #[.pointer (some ⟨w.heap.size, 0, none⟩)]) ∧ w' = w.alloc (.cells #[.string s] 9) := by
  go_enter Tryz.func232, Tryz.ntmps232
  go_wp2_with fail
  go_ret
  exact ⟨rfl, rfl⟩
theorem enters82 : ∀ args w, (callFunc 271 args).run Tryz.prog w = .ok (.enter 271 args) w := by
  exact enters_of Tryz.func271 (by kernel_rfl) rfl
open Go Go.RowKit Go.Shelf Go.ChangeShapes Go.WideShapes Go.ChangeAt Go.Maps
set_option linter.unusedVariables false
def seqRen : Go.Shelf.Ren := ⟨fun | 8 => 292 | 11 => 312 | n => n, fun | 0 => 0 | 24 => 93 | 26 => 9 | 28 => 282 | 33 => 95 | n => n, fun | n => n⟩
theorem seq8 : SlLaysZ.n8 Tryz.prog seqRen := {
  mixed := by kernel_rfl
  f8 := ⟨Tryz.f292.name, by kernel_rfl, Tryz.func292.trans (congrArg some (by kernel_rfl))⟩
  f11 := ⟨Tryz.f312.name, by kernel_rfl, Tryz.func312.trans (congrArg some (by kernel_rfl))⟩
  t0 := Tryz.underlying0
  a0 := Tryz.isAgg0
  z0 := Tryz.sizeOf0
  v0 := Tryz.zeroValue0
  t24 := Tryz.underlying93
  a24 := Tryz.isAgg93
  z24 := Tryz.sizeOf93
  v24 := Tryz.zeroValue93
  t26 := Tryz.underlying9
  a26 := Tryz.isAgg9
  z26 := Tryz.sizeOf9
  v26 := Tryz.zeroValue9
  t28 := Tryz.underlying282
  a28 := Tryz.isAgg282
  z28 := Tryz.sizeOf282
  v28 := Tryz.zeroValue282
  i26 := by kernel_rfl }
def PathOut (s : ByteArray) (W : World) (e : Ending) (w' : World) : Prop :=
  ∃ v, e = .returned v ∧ w'.ownsRow W.heap.size 9 1 v (pathL s.data.toList).length (scells (fOf (pathL s.data.toList)) (pathL s.data.toList).length) ∧ (v = .slice none 0 0 ↔ (pathL s.data.toList).length = 0) ∧ Below W.heap.size W w'
theorem collect_up (s : ByteArray) (hs : s.size < 4611686018427387904) (B : Nat) (w : World) (hB : w.cell? ⟨B, 0, none⟩ = some (.string s)) : Calls Tryz.prog 292 #[.func (.func 271) #[] #[.pointer (some ⟨B, 0, none⟩)]] w fun e w' => PathOut s w e w' := by
  refine (callsIn_wide (n := 4)).1 ?_
  have h := AnyZ.collect_in seq8 Fence.wide 4 trivial trivial rfl (by omega) 271 #[.pointer (some ⟨B, 0, none⟩)] trivial enters82 (fun xs => xs = pathL s.data.toList) 6 (by unfold maxLen; omega) (by omega) w ((up_stops s hs B w hB 2 (by omega)).gives)
  refine h.mono ?_
  rintro e w' ⟨v, ss, he, rfl, hrow, hnil, hb⟩
  refine ⟨v, he, ?_, ?_, hb⟩
  · rw [scells_list]
    exact hrow
  · rw [hnil]
    exact List.length_eq_zero_iff.symm
set_option maxHeartbeats 1000000 in
theorem path_any (s : ByteArray) (hs : s.size < 4611686018427387904) (w : World) : Calls Tryz.prog 258 #[.string s] w fun e w' => PathOut s w e w' := by
  have hcol := hide (collect_up s hs w.heap.size (w.alloc (.cells #[.string s] 9)) (by simp))
  have du := hide (upwards_any s w)
  go_enter Tryz.func258, Tryz.ntmps258
  go_wp2_with fail
  refine (unhide du).mono ?_
  rintro e w1 ⟨rfl, hw⟩
  rw [hw]
  clear hw w1
  go_wp2_with fail
  refine (unhide hcol).mono ?_
  rintro e w1 ⟨v, rfl, hrow, hnil, hb⟩
  have HO : Hid (PathOut s w (.returned v) w1) := ⟨v, rfl, ownsRow_base_a hrow (by simp), hnil, ((Below.refl _ w).alloc (Nat.le_refl _) _).trans (hb.mono (by simp))⟩
  clear hrow hnil hb
  go_wp2_with fail
  go_ret
  exact unhide HO
open Go
set_option linter.unusedVariables false
abbrev Nm := List UInt8
structure Ac where
  nm : Nm
  ty : Int
  dy : Int
  cl : Bool
theorem ups_cases (x : Nm) : ups x = [] ∨ ∃ p, ups x = p :: ups p ∧ p.length < x.length ∧ (nameL x = true → nameL p = true) := by
  by_cases h : x.contains 58 = true
  · right
    obtain ⟨j, hj, _, hu, hn⟩ := ups_some ⟨x.toArray⟩ (by simpa using h)
    have e : (⟨x.toArray⟩ : ByteArray).data.toList = x := by simp
    rw [e] at hu hn
    refine ⟨_, hu, ?_, hn⟩
    have : j < x.length := by simpa [ByteArray.size] using hj
    rw [List.length_take]
    omega
  · left
    exact ups_none x (by simpa using h)
theorem name_ne {x : Nm} (h : nameL x = true) : x ≠ [] := by
  rintro rfl
  revert h
  decide
def par (x : Nm) : Nm := (ups x).headD []
def anc (x : Nm) : List Nm := ups x ++ [[]]
theorem par_lt {x : Nm} (h : x ≠ []) : (par x).length < x.length := by
  rcases ups_cases x with e | ⟨p, e, hp, _⟩
  · rw [par, e]
    exact List.length_pos_iff.2 h
  · rw [par, e]
    exact hp
theorem anc_root {x : Nm} (h : ups x = []) : anc x = [[]] := by rw [anc, h]; rfl
theorem anc_step {x p : Nm} (h : ups x = p :: ups p) : anc x = p :: anc p := by rw [anc, h]; rfl
theorem anc_head (x : Nm) : (anc x)[0]? = some (par x) := by
  rcases ups_cases x with e | ⟨p, e, _⟩
  · rw [anc_root e, par, e]; rfl
  · rw [anc_step e, par, e]; rfl
theorem anc_short : ∀ (n : Nat) (x : Nm), x.length ≤ n → nameL x = true → ∀ y ∈ anc x, y.length < x.length
  | n, x, hn, hx, y, hy => by
    rcases ups_cases x with e | ⟨p, e, hp, hq⟩
    · rw [anc_root e] at hy
      simp at hy
      subst hy
      exact List.length_pos_iff.2 (name_ne hx)
    · rw [anc_step e] at hy
      rcases List.mem_cons.1 hy with rfl | hy
      · exact hp
      · cases n with
        | zero => omega
        | succ n =>
          have := anc_short n p (by omega) (hq hx) y hy
          omega
theorem anc_lt {x y : Nm} (hx : nameL x = true) (h : y ∈ anc x) : y.length < x.length := anc_short _ x (Nat.le_refl _) hx y h
theorem anc_next : ∀ (n : Nat) (x : Nm), x.length ≤ n → nameL x = true → ∀ (j : Nat) (z : Nm), (anc x)[j]? = some z → z ≠ [] → (anc x)[j + 1]? = some (par z) ∧ nameL z = true
  | n, x, hn, hx, j, z, hj, hz => by
    rcases ups_cases x with e | ⟨p, e, hp, hq⟩
    · rw [anc_root e] at hj
      cases j with
      | zero => simp at hj; exact (hz (by first | exact hj.symm | exact hj)).elim
      | succ j => simp at hj
    · rw [anc_step e] at hj ⊢
      cases j with
      | zero =>
        simp at hj
        subst hj
        exact ⟨by simpa using anc_head p, hq hx⟩
      | succ j =>
        cases n with
        | zero => omega
        | succ n =>
          have := anc_next n p (by omega) (hq hx) j z (by simpa using hj) hz
          simpa using this
theorem anc_down : ∀ (n : Nat) (x : Nm), x.length ≤ n → nameL x = true → ∀ (i j : Nat) (y z : Nm), (anc x)[i]? = some y → (anc x)[j]? = some z → i < j → z.length < y.length
  | n, x, hn, hx, i, j, y, z, hi, hj, hij => by
    rcases ups_cases x with e | ⟨p, e, hp, hq⟩
    · rw [anc_root e] at hj
      cases j with
      | zero => omega
      | succ j => simp at hj
    · rw [anc_step e] at hi hj
      cases j with
      | zero => omega
      | succ j =>
        simp at hj
        cases i with
        | zero =>
          simp at hi
          subst hi
          exact anc_lt (hq hx) (List.mem_of_getElem? hj)
        | succ i =>
          simp at hi
          cases n with
          | zero => omega
          | succ n => exact anc_down n p (by omega) (hq hx) i j y z hi hj (by omega)
def kids (L : List Ac) (x : Nm) : List Nm := (L.filter fun a => decide (par a.nm = x)).map (·.nm)
theorem mem_kids {L : List Ac} {x y : Nm} : y ∈ kids L x ↔ (∃ a ∈ L, a.nm = y) ∧ par y = x := by
  simp only [kids, List.mem_map, List.mem_filter, decide_eq_true_eq]
  constructor
  · rintro ⟨a, ⟨h1, h2⟩, rfl⟩
    exact ⟨⟨a, h1, rfl⟩, h2⟩
  · rintro ⟨⟨a, h1, rfl⟩, h2⟩
    exact ⟨a, ⟨h1, h2⟩, rfl⟩
structure Good (L : List Ac) : Prop where
  rise : L.Pairwise fun a b => a.nm < b.nm
  name : ∀ a ∈ L, nameL a.nm = true
  up : ∀ a ∈ L, ∀ p t, ups a.nm = p :: t → ∃ b ∈ L, b.nm = p ∧ b.ty = a.ty ∧ b.dy ≤ a.dy ∧ (b.cl = true → a.cl = true)
  day : ∀ a ∈ L, 1 ≤ a.dy ∧ a.dy ≤ 3652059
  typ : ∀ a ∈ L, 1 ≤ a.ty ∧ a.ty ≤ 5
  len : L.length ≤ 100
theorem Good.one {L : List Ac} (h : Good L) {a b : Ac} (ha : a ∈ L) (hb : b ∈ L) (e : a.nm = b.nm) : a = b := by
  have h1 := h.rise
  clear h
  induction L with
  | nil => cases ha
  | cons c L ih =>
    rw [List.pairwise_cons] at h1
    rcases List.mem_cons.1 ha with rfl | ha'
    · rcases List.mem_cons.1 hb with rfl | hb'
      · rfl
      · have := h1.1 b hb'
        rw [e] at this
        exact absurd this (List.lt_irrefl _)
    · rcases List.mem_cons.1 hb with rfl | hb'
      · have := h1.1 a ha'
        rw [e] at this
        exact absurd this (List.lt_irrefl _)
      · exact ih ha' hb' h1.2
theorem Good.kids_rise {L : List Ac} (h : Good L) (x : Nm) : (kids L x).Pairwise (· < ·) := by
  rw [kids, List.pairwise_map]
  exact (h.rise.filter _).imp fun h => h
theorem Good.above {L : List Ac} (h : Good L) : ∀ (n : Nat) (x : Nm), x.length ≤ n → (∃ a ∈ L, a.nm = x) → ∀ y ∈ anc x, y ≠ [] → ∃ a ∈ L, a.nm = y
  | n, x, hn, ⟨a, ha, hax⟩, y, hy, h0 => by
    subst hax
    rcases ups_cases a.nm with e | ⟨p, e, hp, hq⟩
    · rw [anc_root e] at hy
      simp at hy
      exact absurd hy h0
    · obtain ⟨b, hb, hbp, _⟩ := h.up a ha p _ e
      rw [anc_step e] at hy
      rcases List.mem_cons.1 hy with rfl | hy
      · exact ⟨b, hb, hbp⟩
      · cases n with
        | zero => omega
        | succ n => exact h.above n p (by omega) ⟨b, hb, hbp⟩ y hy h0
open Go Go.Shelf Go.ChangeShapes Go.WideShapes Go.ChangeAt Go.RowKit Go.Maps
set_option linter.unusedVariables false
def cmpS (x y : List UInt8) : Int := if x < y then -1 else if x = y then 0 else 1
theorem slt_irrefl (x : List UInt8) : ¬ x < x := List.lt_irrefl x
theorem slt_trans {x y z : List UInt8} (h1 : x < y) (h2 : y < z) : x < z := List.lt_trans h1 h2
theorem slt_tri {x y : List UInt8} (h1 : ¬ x < y) (h2 : ¬ y < x) : x = y := by
  rw [List.not_lt] at h1 h2
  exact List.le_antisymm h2 h1
theorem cmpS_neg (x y : List UInt8) : cmpS x y < 0 ↔ x < y := by
  unfold cmpS
  by_cases h1 : x < y
  · simp [h1]
  · by_cases h2 : x = y
    · rw [if_neg h1, if_pos h2]; simp [h1]
    · rw [if_neg h1, if_neg h2]; simp [h1]
theorem nans_any (x : ByteArray) (w : World) : Calls Tryz.prog 293 #[.string x] w fun e w' => e = .returned (.bool false) ∧ w' = w := by
  have hx : (x.toList == x.toList) = true := by simp
  go_enter Tryz.func293, Tryz.ntmps293
  go_wp2_with fail
  go_ret
  exact ⟨rfl, rfl⟩
theorem cmps_any (x y : ByteArray) (w : World) : Calls Tryz.prog 261 #[.string x, .string y] w fun e w' => e = .returned (.int .i64 (cmpS x.data.toList y.data.toList)) ∧ w' = w := by
  have d1 := hide (nans_any x); have d2 := hide (nans_any y)
  have e1 : Op.bytesLess x.toList y.toList = decide (x.data.toList < y.data.toList) := by rw [Go.Proofs.bytesLess_eq, ByteArray.toList_eq, ByteArray.toList_eq]
  have e2 : (x.toList == y.toList) = decide (x.data.toList = y.data.toList) := by rw [ByteArray.toList_eq, ByteArray.toList_eq]; exact Bool.eq_iff_iff.2 (by rw [beq_iff_eq, decide_eq_true_iff])
  by_cases h1 : x.data.toList < y.data.toList
  · rw [cmpS, if_pos h1]
    rw [decide_eq_true h1] at e1
    clear e2 h1
    go_enter Tryz.func261, Tryz.ntmps261
    go_wp2_with fail
    refine (unhide d1 _).mono ?_
    rintro e w' ⟨rfl, rfl⟩
    go_wp2_with fail
    refine (unhide d2 _).mono ?_
    rintro e w' ⟨rfl, rfl⟩
    go_wp2_with fail
    go_ret
    exact ⟨rfl, rfl⟩
  · rw [decide_eq_false h1] at e1
    by_cases h2 : x.data.toList = y.data.toList
    · rw [cmpS, if_neg h1, if_pos h2]
      rw [decide_eq_true h2] at e2
      clear h1 h2
      go_enter Tryz.func261, Tryz.ntmps261
      go_wp2_with fail
      refine (unhide d1 _).mono ?_
      rintro e w' ⟨rfl, rfl⟩
      go_wp2_with fail
      refine (unhide d2 _).mono ?_
      rintro e w' ⟨rfl, rfl⟩
      go_wp2_with fail
      go_ret
      exact ⟨rfl, rfl⟩
    · rw [cmpS, if_neg h1, if_neg h2]
      rw [decide_eq_false h2] at e2
      clear h1 h2
      go_enter Tryz.func261, Tryz.ntmps261
      go_wp2_with fail
      refine (unhide d1 _).mono ?_
      rintro e w' ⟨rfl, rfl⟩
      go_wp2_with fail
      refine (unhide d2 _).mono ?_
      rintro e w' ⟨rfl, rfl⟩
      go_wp2_with fail
      go_ret
      exact ⟨rfl, rfl⟩
theorem cmpS_zero (x y : List UInt8) : cmpS x y = 0 ↔ x = y := by
  unfold cmpS
  by_cases h1 : x < y
  · rw [if_pos h1]
    constructor
    · intro h; omega
    · rintro rfl; exact absurd h1 (slt_irrefl _)
  · by_cases h2 : x = y
    · rw [if_neg h1, if_pos h2]; simp [h2]
    · rw [if_neg h1, if_neg h2]; simp [h2]
abbrev txN (x : Nm) : ByteArray := ⟨x.toArray⟩
theorem txN_list (x : Nm) : (txN x).data.toList = x := by simp
abbrev ptr (b : Nat) : Value := .pointer (some ⟨b, 0, none⟩)
set_option maxHeartbeats 1000000 in
theorem place1_any (b : Nat) (s t : ByteArray) (w : World) (h : w.cell? ⟨b, 0, none⟩ = some (.string s)) : Calls Tryz.prog 260 #[ptr b, .string t] w fun e w' => e = .returned (.int .i64 (cmpS s.data.toList t.data.toList)) ∧ w' = w := by
  have d1 := hide (cmps_any s t)
  go_enter Tryz.func260, Tryz.ntmps260
  go_wp2_with fail
  refine (unhide d1 _).mono ?_
  rintro e w' ⟨rfl, rfl⟩
  go_wp2_with fail
  go_ret
  exact ⟨rfl, rfl⟩
def posK (K : List Nm) (x : Nm) : Nat := K.countP fun y => decide (y < x)
theorem posK_is {K : List Nm} {x : Nm} {i : Nat} (hi : i ≤ K.length) (h1 : ∀ t (h : t < K.length), t < i → K[t] < x) (h2 : ∀ t (h : t < K.length), i ≤ t → ¬ K[t] < x) : posK K x = i := by
  unfold posK
  induction K generalizing i with
  | nil => simp at hi; simp [hi]
  | cons k K ih =>
    cases i with
    | zero =>
      rw [List.countP_eq_zero]
      intro y hy
      obtain ⟨t, ht, rfl⟩ := List.getElem_of_mem hy
      simpa using h2 t ht (by omega)
    | succ i =>
      have hk : k < x := h1 0 (by simp) (by omega)
      rw [List.countP_cons_of_pos (by simpa using hk), ih (by simpa using hi) (fun t h ht => h1 (t + 1) (by simpa using h) (by omega)) (fun t h ht => h2 (t + 1) (by simpa using h) (by omega))]
theorem posK_le (K : List Nm) (x : Nm) : posK K x ≤ K.length := List.countP_le_length
theorem found_is {K : List Nm} {x : Nm} (hK : K.Pairwise (· < ·)) {i : Nat} (hi : i ≤ K.length) (h1 : ∀ t (h : t < K.length), t < i → K[t] < x) (h2 : ∀ t (h : t < K.length), i ≤ t → ¬ K[t] < x) : x ∈ K ↔ ∃ h : i < K.length, K[i] = x := by
  constructor
  · intro hx
    obtain ⟨t, ht, rfl⟩ := List.getElem_of_mem hx
    have hti : ¬ t < i := fun h => slt_irrefl _ (h1 t ht h)
    by_cases e : t = i
    · subst e; exact ⟨ht, rfl⟩
    · have hlt : i < t := by omega
      have := List.pairwise_iff_getElem.1 hK i t (by omega) ht hlt
      exact absurd this (h2 i (by omega) (Nat.le_refl _))
  · rintro ⟨h, rfl⟩
    exact List.getElem_mem h
theorem enters51 : ∀ args w, (callFunc 260 args).run Tryz.prog w = .ok (.enter 260 args) w := by
  exact enters_of Tryz.func260 (by kernel_rfl) rfl
structure RowK (w : World) (q : Nat) (nd : Nm → Nat) (K : List Nm) : Prop where
  row : ∀ j (h : j < K.length), w.cell? ⟨q, j, none⟩ = some (ptr (nd K[j]))
  nam : ∀ x ∈ K, w.cell? ⟨nd x, 0, none⟩ = some (.string (txN x))
set_option maxRecDepth 100000 in
set_option maxHeartbeats 4000000 in
theorem bsf_any (w : World) (q cap n : Nat) (nd : Nm → Nat) (K : List Nm) (hn : K.length = n) (hn1 : n ≤ 100) (t : ByteArray) (hK : RowK w q nd K) (hr : K.Pairwise (· < ·)) :
    Calls Tryz.prog 259 #[.slice (some ⟨q, 0, none⟩) n cap, .string t, .func (.func 260) #[] #[]] w fun e w' => e = .returned (.tuple #[.int .i64 (posK K t.data.toList : Nat), .bool (decide (t.data.toList ∈ K))]) ∧ w' = w := by
  have HK := hide hK; have HR := hide hr; have HN := hide hn
  have eg := enters51
  clear hK hr hn
  obtain ⟨po, hpo⟩ : ∃ z, posK K t.data.toList = z := ⟨_, rfl⟩
  have PO := hide hpo
  rw [hpo]
  clear hpo
  obtain ⟨fo, hfo⟩ : ∃ z, decide (t.data.toList ∈ K) = z := ⟨_, rfl⟩
  have FO := hide hfo
  rw [hfo]
  clear hfo
  have key : ∀ y (hy : y < n), ∃ s, Hid (∃ h : y < K.length, K[y] = s) ∧ w.cell? ⟨q, y, none⟩ = some (ptr (nd s)) ∧ Hid (Calls Tryz.prog 260 #[ptr (nd s), .string t] w fun e w' => e = .returned (.int .i64 (cmpS s t.data.toList)) ∧ w' = w) := fun y hy => by
    have hy' : y < K.length := by rw [unhide HN]; exact hy
    refine ⟨K[y], ⟨hy', rfl⟩, (unhide HK).row y hy', ?_⟩
    have := place1_any (nd K[y]) (txN K[y]) t w ((unhide HK).nam _ (List.getElem_mem hy'))
    rw [txN_list] at this
    exact this
  have KEY := hide key
  clear key
  go_enter Tryz.func259, Tryz.ntmps259
  go_wp2
  go_loopg [9, 10] n (fun kx s9 s10 wr => ∃ lo hi : Nat, s9 = .int .i64 lo ∧ s10 = .int .i64 hi ∧ lo ≤ hi ∧ hi ≤ n ∧ hi - lo ≤ kx ∧ Hid (wr = w) ∧ Hid (∀ y (h : y < K.length), y < lo → K[y] < t.data.toList) ∧ Hid (∀ y (h : y < K.length), hi ≤ y → ¬ K[y] < t.data.toList))
  case atStart => exact ⟨0, n, rfl, rfl, Nat.zero_le _, Nat.le_refl _, by omega, rfl, fun y h h2 => by omega, fun y h h2 => by have := unhide HN; omega⟩
  case round =>
    obtain ⟨lo, hi, rfl, rfl, hlh, hin, hg, hw, i1, i2⟩ := hrel
    have hw' := unhide hw
    subst hw'
    by_cases hlt : lo < hi
    · obtain ⟨s, hs, hc, dc⟩ := unhide KEY ((lo + hi) / 2) (by omega)
      obtain ⟨c, hcv⟩ : ∃ c, cmpS s t.data.toList = c := ⟨_, rfl⟩
      rw [hcv] at dc
      have CV := hide hcv
      clear hcv
      by_cases hy : c < 0
      · go_wp2_with (go_at_fn 260; refine (unhide dc).mono ?_; rintro e w' ⟨rfl, rfl⟩)
        go_roundg (hi - ((lo + hi) / 2 + 1))
        case measure => omega
        case rel =>
          refine ⟨(lo + hi) / 2 + 1, hi, by rw [show ((lo : Int) + (hi : Int)) / 2 + 1 = (((lo + hi) / 2 + 1 : Nat) : Int) by omega], rfl, by omega, hin, Nat.le_refl _, rfl, fun y h h2 => ?_, unhide i2⟩
          obtain ⟨hm, em⟩ := unhide hs
          have hsx : s < t.data.toList := (cmpS_neg _ _).1 (by rw [unhide CV]; exact hy)
          rw [← em] at hsx
          by_cases e : y = (lo + hi) / 2
          · subst e; exact hsx
          · exact slt_trans (List.pairwise_iff_getElem.1 (unhide HR) y _ h hm (by omega)) hsx
      · go_wp2_with (go_at_fn 260; refine (unhide dc).mono ?_; rintro e w' ⟨rfl, rfl⟩)
        go_roundg ((lo + hi) / 2 - lo)
        case measure => omega
        case rel =>
          refine ⟨lo, (lo + hi) / 2, rfl, by rw [show ((lo : Int) + (hi : Int)) / 2 = (((lo + hi) / 2 : Nat) : Int) by omega], by omega, by omega, Nat.le_refl _, rfl, unhide i1, fun y h h2 hyx => ?_⟩
          obtain ⟨hm, em⟩ := unhide hs
          have hsx : ¬ s < t.data.toList := fun h => Int.not_lt.2 hy (by rw [← unhide CV]; exact (cmpS_neg _ _).2 h)
          rw [← em] at hsx
          by_cases e : y = (lo + hi) / 2
          · subst e; exact hsx hyx
          · exact hsx (slt_trans (List.pairwise_iff_getElem.1 (unhide HR) _ y hm h (by omega)) hyx)
    · obtain rfl : hi = lo := by omega
      have hpos := posK_is (i := hi) (by rw [unhide HN]; exact hin) (unhide i1) (unhide i2)
      rw [unhide PO] at hpos
      subst hpos
      by_cases hn : po < n
      · obtain ⟨s, hs, hc, dc⟩ := unhide KEY po hn
        obtain ⟨c, hcv⟩ : ∃ c, cmpS s t.data.toList = c := ⟨_, rfl⟩
        rw [hcv] at dc
        have hfin : fo = (c == 0) := by
          rw [← unhide FO, ← hcv, Bool.eq_iff_iff, decide_eq_true_eq, beq_iff_eq, cmpS_zero, found_is (unhide HR) (by rw [unhide HN]; exact hin) (unhide i1) (unhide i2)]
          obtain ⟨hm, em⟩ := unhide hs
          constructor
          · rintro ⟨_, h⟩; rw [← em]; exact h
          · intro h; exact ⟨hm, em.trans h⟩
        clear hcv
        subst hfin
        have HF := hide hn
        by_cases hy : c = 0
        · have hy2 : (c == 0) = true := by simp [hy]
          go_wp2_with (go_at_fn 260; refine (unhide dc).mono ?_; rintro e w' ⟨rfl, rfl⟩)
          go_ret2
          exact ⟨by simp [hy], rfl⟩
        · have hy2 : (c == 0) = false := by simp [hy]
          go_wp2_with (go_at_fn 260; refine (unhide dc).mono ?_; rintro e w' ⟨rfl, rfl⟩)
          go_ret2
          exact ⟨by simp [hy], rfl⟩
      · have hfin : fo = false := by
          rw [← unhide FO, decide_eq_false_iff_not, found_is (unhide HR) (by rw [unhide HN]; exact hin) (unhide i1) (unhide i2)]
          rintro ⟨h, _⟩
          have := unhide HN
          omega
        subst hfin
        go_wp2
        go_ret2
        exact ⟨rfl, rfl⟩
open Go Go.RowKit Go.Shelf
set_option linter.unusedVariables false
def lpy : Obj → Bool
  | .loop _ => true
  | .deferred _ => true
  | _ => false
def OwnL {β : Type} (B : Nat) (I : β → World → Prop) : Prop :=
  ∀ s W W' row, I s W → W.grownBy W' row → (∀ r, row = some r → B ≤ r ∧ ∃ o : Obj, W.heap[r]? = some o ∧ lpy o = true) → I s W'
theorem OwnL.putObj {β : Type} {B : Nat} {I : β → World → Prop} (h : OwnL B I) {s : β} {W : World} {l : Nat} {o : Obj} (o' : Obj) (hs : I s W) (hB : B ≤ l) (hl : W.heap[l]? = some o) (ho : lpy o = true) : I s (W.putObj l o') :=
  h s W _ (some l) hs (grownBy_putObj' W l o') (fun r e => by cases e; exact ⟨hB, o, hl, ho⟩)
theorem OwnL.alloc {β : Type} {B : Nat} {I : β → World → Prop} (h : OwnL B I) {s : β} {W : World} (o : Obj) (hs : I s W) : I s (W.alloc o) :=
  h s W _ none hs (World.grownBy_alloc W o none) (fun r e => by cases e)
structure KeepsG (gd : Obj → Bool) (W W' : World) : Prop where
  size : W.heap.size ≤ W'.heap.size
  same : ∀ (k : Nat) (o : Obj), W.heap[k]? = some o → gd o = true → W'.heap[k]? = some o
theorem KeepsG.refl (gd : Obj → Bool) (W : World) : KeepsG gd W W := ⟨Nat.le_refl _, fun _ _ h _ => h⟩
theorem KeepsG.trans {gd : Obj → Bool} {X Y Z : World} (h : KeepsG gd X Y) (k : KeepsG gd Y Z) : KeepsG gd X Z := ⟨Nat.le_trans h.size k.size, fun i o hi ho => k.same i o (h.same i o hi ho) ho⟩
structure KeepsF (gd : Obj → Bool) (B : Nat) (W W' : World) : Prop where
  size : W.heap.size ≤ W'.heap.size
  same : ∀ (k : Nat) (o : Obj), B ≤ k → W.heap[k]? = some o → gd o = true → W'.heap[k]? = some o
theorem KeepsG.from {gd : Obj → Bool} {X Y : World} (h : KeepsG gd X Y) (B : Nat) : KeepsF gd B X Y := ⟨h.size, fun k o _ hk ho => h.same k o hk ho⟩
def GivesS {α : Type} (gd : Obj → Bool) (P : Program) (gf : Nat) (lb : Array Value) (encs : α → Array Value) (X : List α) (w : World) : Prop :=
  ∀ (l : Nat) (J Jx : List α → World → Prop) (W : World), Below w.heap.size w W → OwnL W.heap.size J → OwnL W.heap.size Jx →
    (∀ pre x W1, J pre W1 → pre ++ [x] <+: X → YieldAt Fence.wide 0 P l (encs x) W1 fun e W2 => (e = .returned (.bool true) ∧ J (pre ++ [x]) W2 ∧ KeepsG gd W1 W2) ∨ (e = .returned (.bool false) ∧ Jx (pre ++ [x]) W2 ∧ KeepsF gd W.heap.size W1 W2)) →
    J [] W → Calls P gf (#[.func (.yield l) #[] #[]] ++ lb) W fun e W2 => (∃ v, e = .returned v) ∧ (J X W2 ∨ ∃ pre, pre <+: X ∧ Jx pre W2)
theorem round_any {m m' : Nat} {P : Program} {l : Nat} {f : FuncId} {tmps : Array Value} {assign body : Code} {w : World} {R : Ending → World → Prop} (h : RoundIn Fence.wide m P l f tmps assign body w R) : RoundIn Fence.wide m' P l f tmps assign body w R :=
  ⟨h.1, fun c cs _ => h.2 c cs (room_wide _)⟩
def endS {α : Type} (gd : Obj → Bool) (B : Nat) (I Ix : List α → World → Prop) (xs : List α) (W : World) (e : Exit) (W2 : World) : Prop :=
  (e = .normal ∧ KeepsG gd W W2 ∧ I xs W2) ∨ (e = .ret ∧ KeepsF gd B W W2 ∧ Ix xs W2)
theorem range_st {α : Type} {n : Nat} {P : Program} {g : Operand} {ps : Array Tmp} {assign body : Code} {Q : Exit → Act → World → Prop} {a : Act} {w : World} (gd : Obj → Bool) (hgd : ∀ o, lpy o = true → gd o = true)
    (h1 : 1 ≤ n) {gf : Nat} {lb : Array Value} (hg : a.eval g = .func (.func gf) #[] lb) (eg : ∀ args w, (callFunc gf args).run P w = .ok (.enter gf args) w)
    {encs : α → Array Value} {X : List α} (hseq : GivesS gd P gf lb encs X w) (hps : ∀ x, (encs x).size = ps.size)
    (I Ix : List α → World → Prop) (hI : OwnL w.heap.size I) (hIx : OwnL w.heap.size Ix) (h0 : I [] w) (a1 : α → Act)
    (hassign : ∀ (l : Nat) (x : α) (W : World) (K : Act → World → Prop), K (a1 x) W → assign.wpIn (Fence.wide.inRound l) (n - 1 - 1) P (Exit.then K (fun _ _ _ => False)) { tmps := (ps.zip (encs x)).foldl (fun t (p, v) => t.setIfInBounds p v) a.tmps, defers := [] } W)
    (hbody : ∀ (l : Nat) (pre : List α) (x : α) (W : World), I pre W → pre ++ [x] <+: X → body.wpIn (Fence.wide.inRound l) (n - 1 - 1) P (fun e _ W2 => endS gd w.heap.size I Ix (pre ++ [x]) W e W2) (a1 x) W)
    (hdone : ∀ (D : Nat) (W : World), w.heap.size ≤ D → I X W → W.heap[D]? = some (.deferred (some [])) → Q .normal { a with defers := { target := .collected D, args := #[] } :: a.defers } W)
    (hstop : ∀ (D : Nat) (pre : List α) (W : World), w.heap.size ≤ D → pre <+: X → Ix pre W → W.heap[D]? = some (.deferred (some [])) → Code.ret.wpIn Fence.wide n P Q { a with defers := { target := .collected D, args := #[] } :: a.defers } W) :
    (Code.rangeFunc g ps assign body).wpIn Fence.wide n P Q a w := by
  refine wpIn_rangeFunc fun fn hfn => ?_
  rw [show Fence.wide.round = none from rfl]
  obtain ⟨r0, hr0⟩ : ∃ r0 : LoopState → Option Code → Loop, r0 = fun st pe => { state := st, pending := pe, fn, tmps := a.tmps, params := ps, assign, body, defers := w.heap.size } := ⟨_, rfl⟩
  obtain ⟨L, hL⟩ : ∃ L, L = w.heap.size + 1 := ⟨_, rfl⟩
  obtain ⟨V, hV⟩ : ∃ V, V = (w.alloc (.deferred (some []))).alloc (.loop (r0 .ready none)) := ⟨_, rfl⟩
  have vs : V.heap.size = L + 1 := by rw [hV, hL]; simp
  have vb : Below w.heap.size w V := by rw [hV]; exact ((Below.refl _ _).alloc (Nat.le_refl _) _).alloc (by simp) _
  have vL : V.heap[L]? = some (.loop (r0 .ready none)) := by
    have := World.alloc_heap_new (w.alloc (.deferred (some []))) (.loop (r0 .ready none))
    rw [World.size_alloc] at this
    rw [hV, hL]
    exact this
  have vD : V.heap[w.heap.size]? = some (.deferred (some [])) := by
    rw [hV]
    exact (Below.heap_alloc _ _ _ (by simp)).trans (World.alloc_heap_new w _)
  have vI : I [] V := by rw [hV]; exact hI.alloc _ (hI.alloc _ h0)
  refine ⟨L, [{ target := .collected w.heap.size, args := #[] }], V, { target := .fn (.func gf) lb, args := #[.func (.yield L) #[] #[]] }, V, gf, #[.func (.yield L) #[] #[]] ++ lb, V, ?_, ?_, ?_, ?_, fun _ => h1, ?_⟩
  · rw [hV, hr0, hL]
    exact run_enterLoop_outer _ _ _ _ _
  · simp only [resolve, hg]
    simp [go_sem]
  · intro f2 hf2
    trivial
  · simp [invoke, go_sem, eg]
  · have turn : ∀ {A B : World} {row : Option Nat} {k : Nat} {o : Obj}, k < V.heap.size → A.heap[k]? = some o → A.grownBy B row → (∀ r, row = some r → V.heap.size ≤ r ∧ ∃ o : Obj, A.heap[r]? = some o ∧ lpy o = true) → B.heap[k]? = some o := fun {A B row k o} hk hA hAB hr =>
      (hAB.block k (Array.getElem?_eq_some_iff.1 hA).1 (fun e => by have := (hr k e.symm).1; omega)).trans hA
    refine (callsIn_wide.2 (hseq L (fun pre W => I pre W ∧ W.heap[L]? = some (.loop (r0 .ready none)) ∧ W.heap[w.heap.size]? = some (.deferred (some []))) (fun pre W => Ix pre W ∧ W.heap[L]? = some (.loop (r0 .done (some .ret))) ∧ W.heap[w.heap.size]? = some (.deferred (some []))) V vb ?_ ?_ ?_ ⟨vI, vL, vD⟩)).mono ?_
    · intro xs A B row hA hAB hr
      exact ⟨hI xs A B row hA.1 hAB (fun r e => by obtain ⟨h1, h2⟩ := hr r e; exact ⟨by omega, h2⟩), turn (by omega) hA.2.1 hAB hr, turn (by omega) hA.2.2 hAB hr⟩
    · intro xs A B row hA hAB hr
      exact ⟨hIx xs A B row hA.1 hAB (fun r e => by obtain ⟨h1, h2⟩ := hr r e; exact ⟨by omega, h2⟩), turn (by omega) hA.2.1 hAB hr, turn (by omega) hA.2.2 hAB hr⟩
    · rintro pre x W ⟨wi, wl, wd⟩ hpx
      have hy := run_yield (P := P) (args := encs x) wl (by rw [hr0]; exact hps x)
      rw [hr0] at hy
      refine ⟨fn, _, assign, body, hy, round_any (m := n - 1 - 1) (roundIn_of_wpIn hfn (hassign L x W _ ?_))⟩
      have busy := run_beginRound (P := P) wl (by rw [hr0])
      refine ⟨_, busy, ?_⟩
      have hlt := (Array.getElem?_eq_some_iff.1 wl).1
      obtain ⟨r1, hr1⟩ : ∃ r1 : Loop, r1 = { r0 .ready none with state := .busy } := ⟨_, rfl⟩
      rw [← hr1]
      have bl : (W.putObj L (.loop r1)).heap[L]? = some (.loop r1) := World.putObj_heap_same hlt
      have bd : (W.putObj L (.loop r1)).heap[w.heap.size]? = some (.deferred (some [])) := (World.putObj_heap_other (by omega)).trans wd
      have oth : ∀ {X2 X3 : World} {o o3 : Obj}, X3 = X2.putObj L o3 → KeepsG gd (W.putObj L (.loop r1)) X2 → ∀ k o, k ≠ L → W.heap[k]? = some o → gd o = true → X3.heap[k]? = some o := fun {X2 X3 o o3} e3 xk k o2 hk ho hg2 => by
        rw [e3]
        exact (World.putObj_heap_other (by omega)).trans (xk.same k o2 ((World.putObj_heap_other (by omega)).trans ho) hg2)
      refine wpIn_mono (hbody L pre x _ (hI.putObj _ wi (by omega) wl rfl) hpx) ?_
      rintro e a3 X2 (⟨rfl, xk, xi⟩ | ⟨rfl, xk, xi⟩)
      · have xl := xk.same _ _ bl (hgd _ rfl)
        have xd := xk.same _ _ bd (hgd _ rfl)
        have fin := run_endRound (P := P) none xl
        have er : ({ r1 with state := (if (none : Option Code).isNone = true then LoopState.ready else LoopState.done), pending := none } : Loop) = r0 .ready none := by rw [hr1, hr0]; rfl
        rw [er] at fin
        refine ⟨_, _, fin, .inl ⟨rfl, ⟨hI.putObj _ xi (by omega) xl rfl, World.putObj_heap_same (Array.getElem?_eq_some_iff.1 xl).1, (World.putObj_heap_other (by omega)).trans xd⟩, ?_⟩⟩
        refine ⟨by have := xk.size; simp at this ⊢; omega, fun k o ho hg2 => ?_⟩
        by_cases ek : k = L
        · subst ek
          rw [wl] at ho
          injection ho with ho
          subst ho
          exact World.putObj_heap_same (Array.getElem?_eq_some_iff.1 xl).1
        · exact oth (o := o) rfl xk k o ek ho hg2
      · have xl := xk.same _ _ (by omega) bl (hgd _ rfl)
        have xd := xk.same _ _ (Nat.le_refl _) bd (hgd _ rfl)
        have fin := run_endRound (P := P) (some .ret) xl
        have er : ({ r1 with state := (if (some Code.ret : Option Code).isNone = true then LoopState.ready else LoopState.done), pending := some Code.ret } : Loop) = r0 .done (some .ret) := by rw [hr1, hr0]; rfl
        rw [er] at fin
        refine ⟨_, _, fin, .inr ⟨rfl, ⟨hIx.putObj _ xi (by omega) xl rfl, World.putObj_heap_same (Array.getElem?_eq_some_iff.1 xl).1, (World.putObj_heap_other (by omega)).trans xd⟩, ?_⟩⟩
        refine ⟨by have := xk.size; simp at this ⊢; omega, fun k o hB ho hg2 => ?_⟩
        exact (World.putObj_heap_other (by omega)).trans (xk.same k o (by omega) ((World.putObj_heap_other (by omega)).trans ho) hg2)
    · rintro e X2 ⟨⟨v, rfl⟩, ⟨xi, xl, xd⟩ | ⟨pre, hp, xi, xl, xd⟩⟩
      · have fin := run_endLoop (P := P) xl (by rw [hr0]; simp)
        have ep : (r0 .ready none).pending = none := by rw [hr0]
        rw [ep] at fin
        exact ⟨none, _, fin, hdone w.heap.size _ (Nat.le_refl _) (hI.putObj _ xi (by omega) xl rfl) ((World.putObj_heap_other (by omega)).trans xd)⟩
      · have fin := run_endLoop (P := P) xl (by rw [hr0]; simp)
        have ep : (r0 .done (some Code.ret)).pending = some .ret := by rw [hr0]
        rw [ep] at fin
        exact ⟨some .ret, _, fin, hstop w.heap.size pre _ (Nat.le_refl _) hp (hIx.putObj _ xi (by omega) xl rfl) ((World.putObj_heap_other (by omega)).trans xd)⟩
open Go Go.Shelf Go.ChangeShapes Go.WideShapes Go.ChangeAt Go.RowKit Go.Maps
set_option linter.unusedVariables false
attribute [local go_sem] Oper.semAt_some
structure Gh where
  nd : Nm → Nat
  kb : Nm → Option Nat
  kc : Nm → Nat
  ex : Nm → List Value
def ksl (g : Gh) (L : List Ac) (x : Nm) : Value := .slice ((g.kb x).map fun q => ⟨q, 0, none⟩) (kids L x).length (g.kc x)
def top0 : Ac := ⟨[], 0, 0, false⟩
def cellsA (a : Ac) (s : Value) : Array Value := #[.string (txN a.nm), .int .i64 a.ty, .int .i64 a.dy, .bool a.cl, s]
def isN (L : List Ac) (x : Nm) : Prop := x = [] ∨ ∃ a ∈ L, a.nm = x
def rowA (g : Gh) (L : List Ac) (x : Nm) : Array Value := ((kids L x).map (fun y => ptr (g.nd y)) ++ g.ex x).toArray
structure ChAt (W : World) (d : Nat) (S : Nat → Prop) (L : List Ac) (g : Gh) : Prop where
  top : g.nd [] = d
  tn : W.heap[d]? = some (.cells (cellsA top0 (ksl g L [])) 260)
  node : ∀ a ∈ L, W.heap[g.nd a.nm]? = some (.cells (cellsA a (ksl g L a.nm)) 258)
  row : ∀ x, isN L x → (kids L x = [] ∧ g.kb x = none ∧ g.kc x = 0) ∨ ∃ q, g.kb x = some q ∧ W.heap[q]? = some (.cells (rowA g L x) 263) ∧ (kids L x).length + (g.ex x).length = g.kc x ∧ kids L x ≠ [] ∧ g.kc x ≤ maxLen
  sd : S d
  sn : ∀ a ∈ L, S (g.nd a.nm)
  sq : ∀ x q, isN L x → g.kb x = some q → S q
theorem ChAt.keep {W W' : World} {d : Nat} {S : Nat → Prop} {L : List Ac} {g : Gh} (h : ChAt W d S L g) (hk : ∀ k, S k → W'.heap[k]? = W.heap[k]?) : ChAt W' d S L g :=
  ⟨h.top, (hk d h.sd).trans h.tn, fun a ha => (hk _ (h.sn a ha)).trans (h.node a ha), fun x hx => by
    rcases h.row x hx with h1 | ⟨q, h1, h2, h3⟩
    · exact .inl h1
    · exact .inr ⟨q, h1, (hk q (h.sq x q hx h1)).trans h2, h3⟩, h.sd, h.sn, h.sq⟩
theorem cell_of {W : World} {b : Nat} {c : Array Value} {t : TypeId} (h : W.heap[b]? = some (.cells c t)) {k : Nat} {v : Value} (hk : c[k]? = some v) : W.cell? ⟨b, k, none⟩ = some v := by
  unfold World.cell?
  simp only [h]
  simpa using hk
theorem froz_of {W : World} {b : Nat} {c : Array Value} {t : TypeId} (h : W.heap[b]? = some (.cells c t)) (k : Nat) : W.frozen? ⟨b, k, none⟩ = false := by
  unfold World.frozen?
  simp [h]
theorem ChAt.name {W : World} {d : Nat} {S : Nat → Prop} {L : List Ac} {g : Gh} (h : ChAt W d S L g) {a : Ac} (ha : a ∈ L) : W.cell? ⟨g.nd a.nm, 0, none⟩ = some (.string (txN a.nm)) := cell_of (h.node a ha) rfl
theorem ChAt.kids4 {W : World} {d : Nat} {S : Nat → Prop} {L : List Ac} {g : Gh} (h : ChAt W d S L g) {x : Nm} (hx : isN L x) : W.cell? ⟨g.nd x, 4, none⟩ = some (ksl g L x) := by
  rcases hx with rfl | ⟨a, ha, rfl⟩
  · rw [h.top]; exact cell_of h.tn rfl
  · exact cell_of (h.node a ha) rfl
theorem ChAt.rowK {W : World} {d : Nat} {S : Nat → Prop} {L : List Ac} {g : Gh} (h : ChAt W d S L g) {x : Nm} (hx : isN L x) : kids L x = [] ∨ ∃ q, ksl g L x = .slice (some ⟨q, 0, none⟩) (kids L x).length (g.kc x) ∧ RowK W q g.nd (kids L x) := by
  rcases h.row x hx with ⟨h1, h2⟩ | ⟨q, h1, h2, h3, h4⟩
  · exact .inl h1
  · refine .inr ⟨q, by rw [ksl, h1]; rfl, fun j hj => cell_of h2 ?_, fun y hy => ?_⟩
    · rw [rowA, List.getElem?_toArray, List.getElem?_append_left (by simpa using hj), List.getElem?_map, List.getElem?_eq_getElem hj]
      rfl
    · obtain ⟨⟨a, ha, rfl⟩, _⟩ := mem_kids.1 hy
      exact h.name ha
theorem kids_len (L : List Ac) (x : Nm) : (kids L x).length ≤ L.length := by
  rw [kids, List.length_map]
  exact List.length_filter_le ..
set_option maxHeartbeats 2000000 in
theorem bsf_none (w : World) (p : Option Addr) (cap : Nat) (t : ByteArray) : Calls Tryz.prog 259 #[.slice p 0 cap, .string t, .func (.func 260) #[] #[]] w fun e w' => e = .returned (.tuple #[.int .i64 (0 : Nat), .bool false]) ∧ w' = w := by
  go_enter Tryz.func259, Tryz.ntmps259
  go_wp2
  refine wp_loop_rounds 1 ?_
  rw [rounds_succ]
  go_wp2
  go_ret2
  exact ⟨rfl, rfl⟩
set_option maxHeartbeats 1000000 in
theorem place_any {W : World} {d : Nat} {S : Nat → Prop} {L : List Ac} {g : Gh} (h : ChAt W d S L g) (hG : Good L) {x : Nm} (hx : isN L x) (t : ByteArray) :
    Calls Tryz.prog 219 #[ptr (g.nd x), .string t] W fun e w' => e = .returned (.tuple #[.int .i64 (posK (kids L x) t.data.toList : Nat), .bool (decide (t.data.toList ∈ kids L x))]) ∧ w' = W := by
  have h4 := h.kids4 hx
  have D : Hid (Calls Tryz.prog 259 #[ksl g L x, .string t, .func (.func 260) #[] #[]] W fun e w' => e = .returned (.tuple #[.int .i64 (posK (kids L x) t.data.toList : Nat), .bool (decide (t.data.toList ∈ kids L x))]) ∧ w' = W) := by
    rcases h.rowK hx with h1 | ⟨q, h1, h2⟩
    · have e1 : ksl g L x = .slice ((g.kb x).map fun q => ⟨q, 0, none⟩) 0 (g.kc x) := by rw [ksl, h1]; rfl
      rw [e1, h1]
      exact bsf_none W _ _ t
    · rw [h1]
      exact bsf_any W q _ _ g.nd _ rfl (Nat.le_trans (kids_len L x) hG.len) t h2 (hG.kids_rise x)
  obtain ⟨b, hb⟩ : ∃ b, b = g.nd x := ⟨_, rfl⟩
  rw [← hb] at h4 ⊢
  obtain ⟨v, hv⟩ : ∃ v, v = ksl g L x := ⟨_, rfl⟩
  rw [← hv] at h4 D
  clear hb hv h hG hx
  go_enter Tryz.func219, Tryz.ntmps219
  go_wp2_with fail
  refine (unhide D).mono ?_
  rintro e w' ⟨rfl, rfl⟩
  go_wp2_with fail
  go_ret2
  exact ⟨rfl, rfl⟩
def gdB : Obj → Bool
  | .loop _ => true
  | .deferred _ => true
  | .cells _ t _ => t == 93 || t == 9
  | _ => false
theorem gdB_lpy (o : Obj) (h : lpy o = true) : gdB o = true := by
  cases o <;> simp_all [lpy, gdB]
theorem back_any (p : Option Addr) (n c : Nat) (w : World) : Calls Tryz.prog 257 #[.slice p n c] w fun e w' => e = .returned (.func (.func 291) #[] #[ptr w.heap.size]) ∧ w' = w.alloc (.cells #[.slice p n c] 93) := by
  go_enter Tryz.func257, Tryz.ntmps257
  go_wp2_with fail
  go_ret
  exact ⟨rfl, rfl⟩
theorem enters69 : ∀ args w, (callFunc 291 args).run Tryz.prog w = .ok (.enter 291 args) w := by
  exact enters_of Tryz.func291 (by kernel_rfl) rfl
def backL (l : List Nm) : List (Nat × Nm) := ((List.range l.length).map fun j => (j, l.getD j [])).reverse
theorem backL_len (l : List Nm) : (backL l).length = l.length := by simp [backL]
theorem backL_get (l : List Nm) (k : Nat) (hk : k < l.length) : (backL l)[k]'(by rw [backL_len]; exact hk) = (l.length - 1 - k, l.getD (l.length - 1 - k) []) := by
  simp [backL]
def encB (p : Nat × Nm) : Array Value := #[.int .i64 p.1, .string (txN p.2)]
def intOf' : Value → Int
  | .int _ z => z
  | _ => 0
set_option maxRecDepth 100000 in
set_option maxHeartbeats 4000000 in
theorem back_gives (l : List Nm) (hl : l.length ≤ 100) (B q cap : Nat) (f : Array Value) (w : World) (hB : w.heap[B]? = some (.cells #[.slice (some ⟨q, 0, none⟩) l.length cap] 93)) (hq : w.heap[q]? = some (.cells f 9)) (hf : ∀ j (h : j < l.length), f[j]? = some (.string (txN l[j]))) :
    GivesS gdB Tryz.prog 291 #[ptr B] encB (backL l) w := by
  intro L J Jx W hW hJ hJx hY h0
  obtain ⟨n, hn⟩ : ∃ n, n = l.length := ⟨_, rfl⟩
  rw [← hn] at hB hl
  have wB : W.heap[B]? = some (.cells #[.slice (some ⟨q, 0, none⟩) n cap] 93) := (hW.block B (Array.getElem?_eq_some_iff.1 hB).1).trans hB
  have wq : W.heap[q]? = some (.cells f 9) := (hW.block q (Array.getElem?_eq_some_iff.1 hq).1).trans hq
  have hcB := cell_of wB (k := 0) rfl
  have HY := hide hY; have HJ := hide hJ; have HX := hide hJx; have H0 := hide h0; have WB := hide wB; have WQ := hide wq; have HF := hide hf; have HN := hide hn
  clear hY hJ hJx h0 hB hW wB wq hq hf hn
  refine (callsIn_wide (n := 4)).1 ?_
  refine callsIn_of_wp Tryz.func291 rfl trivial ?_ rfl
  simp only [Tryz.ntmps291, List.size_toArray, List.length_cons, List.length_nil, Nat.reduceAdd, Nat.reduceSub, Array.replicate_succ, Array.replicate_zero, List.push_toArray, List.append_toArray, List.nil_append, List.cons_append]
  have hw1 : IntKind.i64.wrap ((n : Int) - 1) = (n : Int) - 1 := by rw [IntKind.wrap_i64]; omega
  gi_wp2_with fail
  gi_loopw [3] (fun v3 wr => ∃ k : Nat, k ≤ n ∧ v3 = .int .i64 ((n : Int) - 1 - k) ∧ Hid (J ((backL l).take k) wr) ∧ Hid (KeepsG gdB W wr)) (fun v3 _ => (intOf' v3 + 1).toNat)
  case atStart => exact ⟨0, Nat.zero_le _, by simp, unhide H0, KeepsG.refl _ _⟩
  case round =>
    obtain ⟨k, hk, rfl, hj, hkp⟩ := hrel
    have r1 := (unhide hkp).same _ _ (unhide WB) rfl
    have c1 := cell_of r1 (k := 0) rfl
    by_cases hlt : k < n
    · obtain ⟨i, hi⟩ : ∃ i : Nat, i = n - 1 - k := ⟨_, rfl⟩
      have e1 : (n : Int) - 1 - k = (i : Int) := by omega
      have hil : i < l.length := by rw [← unhide HN]; omega
      have c2 : wr.cell? ⟨q, i, none⟩ = some (.string (txN l[i])) := cell_of ((unhide hkp).same _ _ (unhide WQ) rfl) (unhide HF i hil)
      have hge : (0 : Int) ≤ (i : Int) := by omega
      obtain ⟨s, hs⟩ : ∃ s, s = l[i] := ⟨_, rfl⟩
      rw [← hs] at c2
      have ex : (backL l)[k]'(by rw [backL_len, ← unhide HN]; exact hlt) = (i, s) := by
        have hL2 := unhide HN
        rw [backL_get l k (by omega), hs, ← hL2, ← hi, List.getD_eq_getElem?_getD, List.getElem?_eq_getElem hil]
        rfl
      have hpre : (backL l).take k ++ [(i, s)] = (backL l).take (k + 1) := by rw [← ex, List.take_append_getElem]
      obtain ⟨fn, tmps, assign, body, hy, hR⟩ := unhide HY ((backL l).take k) (i, s) wr (unhide hj) (by rw [hpre]; exact List.take_prefix ..)
      rw [hpre] at hR
      have HR := hide (round_any (m' := 4 - 1) hR)
      have hw2 : IntKind.i64.wrap ((i : Int) - 1) = (i : Int) - 1 := by rw [IntKind.wrap_i64]; omega
      have hi1 : i < n := by omega
      have HI := hide hi
      rw [e1]
      clear hR hpre ex hs hi hj e1
      unfold encB at hy
      gi_wp2_with fail
      refine (unhide HR).mono ?_
      rintro e W3 (⟨rfl, hJ3, hk3⟩ | ⟨rfl, hx3, _⟩)
      · have J3 := hide hJ3; have K3 := hide hk3
        clear hJ3 hk3
        gi_wp2
        refine ⟨⟨k + 1, by omega, ?_, unhide J3, (unhide hkp).trans (unhide K3)⟩, ?_⟩
        · congr 1
          have := unhide HI
          omega
        · show ((i : Int) - 1 + 1).toNat < ((i : Int) + 1).toNat
          omega
      · have X3 := hide hx3
        clear hx3
        gi_wp2_with fail
        refine bodyPost_ret (results_none rfl _ _ _) rfl ?_
        exact ⟨⟨_, rfl⟩, .inr ⟨_, List.take_prefix .., unhide X3⟩⟩
    · have e1 : (n : Int) - 1 - k = -1 := by omega
      have HX2 : Hid (J (backL l) wr) := by
        have := unhide hj
        rw [List.take_of_length_le (by rw [backL_len, ← unhide HN]; omega)] at this
        exact this
      rw [e1]
      clear hj e1
      gi_wp2
      go_end0
      exact ⟨⟨_, rfl⟩, .inl (unhide HX2)⟩
open Go Go.Shelf Go.ChangeShapes Go.WideShapes Go.ChangeAt Go.RowKit Go.Maps
set_option linter.unusedVariables false
attribute [local go_sem] Oper.semAt_some
theorem ownL_obj {β : Type} (B b : Nat) (f : β → Obj) (hf : ∀ s, lpy (f s) = false) : OwnL B (fun s W => W.heap[b]? = some (f s)) := fun s W W' row hs hg hr =>
  (hg.block b (Array.getElem?_eq_some_iff.1 hs).1 (fun e => by
    obtain ⟨_, o, ho, hl⟩ := hr b e.symm
    rw [hs] at ho
    injection ho with ho
    rw [← ho, hf s] at hl
    cases hl)).trans hs
theorem ownL_boxed {β : Type} (B b : Nat) (t : TypeId) (f : β → Value) : OwnL B (fun s W => Boxed W b t (f s)) := ownL_obj B b (fun s => .cells #[f s] t) (fun _ => rfl)
theorem ownL_below {β : Type} {B n : Nat} {w : World} (hw : n ≤ w.heap.size) (hn : n ≤ B) : OwnL B (fun (_ : β) W => Below n w W) := fun s W W' row hs hg hr =>
  hs.grown hg (Nat.le_trans hw hs.size) (fun k e => Nat.le_trans hn (hr k e).1)
def stepN (p : List Nm) (k : Nat) : Nm := if k = 0 then [] else p.getD (p.length - k) []
theorem stepN_zero (p : List Nm) : stepN p 0 = [] := rfl
theorem stepN_succ {p : List Nm} {k : Nat} (hk : k < p.length) : stepN p (k + 1) = p[p.length - 1 - k] := by
  rw [stepN, if_neg (by omega), List.getD_eq_getElem?_getD, List.getElem?_eq_getElem (by omega)]
  simp only [Option.getD_some]
  congr 1
  omega
theorem path_anc {x : Nm} (h : nameL x = true) : pathL x ++ [[]] = x :: anc x := by rw [pathL, if_pos h]; rfl
theorem step_par {x : Nm} (h : nameL x = true) {k : Nat} (hk : k < (pathL x).length) : par (stepN (pathL x) (k + 1)) = stepN (pathL x) k ∧ nameL (stepN (pathL x) (k + 1)) = true ∧ stepN (pathL x) (k + 1) ∈ x :: anc x := by
  rw [stepN_succ hk]
  obtain ⟨p, hp⟩ : ∃ p, p = pathL x := ⟨_, rfl⟩
  have ha := path_anc h
  have hk' : k < p.length := by rw [hp]; exact hk
  have hc : ∀ j (hj : j < p.length), (x :: anc x)[j]? = some p[j] := fun j hj => by
    rw [← ha, ← hp, List.getElem?_append_left hj, List.getElem?_eq_getElem hj]
  have hne : ∀ j (hj : j < p.length), p[j] ≠ [] ∧ nameL p[j] = true := fun j hj => by
    have h1 := hc j hj
    cases j with
    | zero =>
      simp at h1
      rw [← h1]
      exact ⟨name_ne h, h⟩
    | succ j =>
      have hlen : (x :: anc x).length = p.length + 1 := by rw [← ha, ← hp]; simp
      have h2 : (anc x)[j]? = some p[j + 1] := by simpa using h1
      have hz : p[j + 1] ≠ [] := fun e => by
        have hl : (anc x)[p.length - 1]? = some [] := by
          have : (x :: anc x)[p.length]? = some [] := by rw [← ha, ← hp, List.getElem?_append_right (Nat.le_refl _)]; simp
          rw [show p.length = (p.length - 1) + 1 by omega] at this
          simpa using this
        have := anc_down _ x (Nat.le_refl _) h j (p.length - 1) _ _ h2 hl (by omega)
        rw [e] at this
        simp at this
      exact ⟨hz, (anc_next _ x (Nat.le_refl _) h j _ h2 hz).2⟩
  have key : ∀ j (hj : j < p.length), (x :: anc x)[j + 1]? = some (par p[j]) := fun j hj => by
    have h1 := hc j hj
    cases j with
    | zero => simp at h1; rw [← h1]; simpa using anc_head x
    | succ j => simpa using (anc_next _ x (Nat.le_refl _) h j _ (by simpa using h1) (hne _ hj).1).1
  have e1 : (pathL x)[(pathL x).length - 1 - k]'(by omega) = p[p.length - 1 - k]'(by omega) := by simp only [hp]
  rw [e1]
  refine ⟨?_, (hne _ _).2, List.mem_of_getElem? (hc _ _)⟩
  have h2 := key (p.length - 1 - k) (by omega)
  rw [show p.length - 1 - k + 1 = p.length - k by omega, ← ha, ← hp] at h2
  cases k with
  | zero =>
    rw [Nat.sub_zero, List.getElem?_append_right (Nat.le_refl _)] at h2
    simp at h2
    rw [stepN_zero]
    exact h2
  | succ k =>
    rw [List.getElem?_append_left (by omega), List.getElem?_eq_getElem (by omega)] at h2
    injection h2 with h2
    rw [← h2, stepN, if_neg (by omega), ← hp, List.getD_eq_getElem?_getD, List.getElem?_eq_getElem (by omega)]
    rfl
theorem step_last {x : Nm} (h : nameL x = true) : stepN (pathL x) (pathL x).length = x := by
  have : 0 < (pathL x).length := by rw [pathL, if_pos h]; simp
  rw [stepN, if_neg (by omega), Nat.sub_self, pathL, if_pos h]
  rfl
theorem pos_get {K : List Nm} (hK : K.Pairwise (· < ·)) {x : Nm} (hx : x ∈ K) : ∃ h : posK K x < K.length, K[posK K x] = x := by
  obtain ⟨i, hi, rfl⟩ := List.getElem_of_mem hx
  have := posK_is (K := K) (x := K[i]) (i := i) (by omega) (fun t h ht => List.pairwise_iff_getElem.1 hK t i h hi ht) (fun t h ht hlt => by
    by_cases e : t = i
    · subst e; exact slt_irrefl _ hlt
    · exact slt_irrefl _ (slt_trans hlt (List.pairwise_iff_getElem.1 hK i t hi h (by omega))))
  exact ⟨by omega, by simp only [this]⟩
def seekV (g : Gh) (L : List Ac) (x : Nm) : Value := open Classical in if (∃ a ∈ L, a.nm = x) then ptr (g.nd x) else .pointer none
theorem result31 {tmps : Array Value} {w : World} {a : Addr} {p : Option Addr} (hp : tmps[4]?.getD undef = .pointer (some a)) (hc : w.cell? a = some (.pointer p)) : (results Tryz.f218 tmps).run Tryz.prog w = .ok (.pointer p) w := by
  simp [results, hp, asAddr, go_sem, hc]
theorem keepG_set63 {W : World} {b : Nat} {v u : Value} (h : Boxed W b 263 v) : KeepsG gdB W (W.setCell ⟨b, 0, none⟩ u) := ⟨by simp, fun k o ho hg => by
  refine (Below.heap_setCell _ _ _ _ (fun e => ?_)).trans ho
  have e' : k = b := e
  subst e'
  rw [show W.heap[k]? = _ from h] at ho
  injection ho with ho
  subst ho
  revert hg
  simp [gdB]⟩
theorem row_open {w : World} {base : Nat} {v : Value} {l : List Nm} (h : w.ownsRow base 9 1 v l.length (scells (fOf l) l.length)) (hm : 0 < l.length) : ∃ q c f, v = .slice (some ⟨q, 0, none⟩) l.length c ∧ base ≤ q ∧ w.heap[q]? = some (.cells f 9) ∧ ∀ j (hj : j < l.length), f[j]? = some (.string (txN l[j])) := by
  obtain ⟨_, ⟨_, h0⟩ | ⟨q, c, f, e1, h1, h2, h3, h4, h5, h6⟩⟩ := h
  · omega
  · refine ⟨q, c, f, e1, h1, h2, fun j hj => ?_⟩
    have e2 : (scells (fOf l) l.length)[j]? = some (.string (txN l[j])) := by
      rw [scells_get _ _ _ hj, fOf, List.getD_eq_getElem?_getD, List.getElem?_eq_getElem hj]
      rfl
    rw [← h6, List.getElem?_take_of_lt (by omega)] at e2
    simpa using e2
structure Sk (W : World) (L : List Ac) (g : Gh) (t : Nm) (r b : Nat) (k : Nat) (W' : World) : Prop where
  box : Boxed W' b 263 (ptr (g.nd (stepN (pathL t) k)))
  res : Boxed W' r 263 (.pointer none)
  isn : isN L (stepN (pathL t) k)
  bel : Below W.heap.size W W'
theorem Sk.own {W : World} {L : List Ac} {g : Gh} {t : Nm} {r b : Nat} {B : Nat} (hB : W.heap.size ≤ B) : OwnL B (fun (pre : List (Nat × Nm)) W' => Sk W L g t r b pre.length W') := fun s X Y row hs hg hr =>
  ⟨ownL_boxed B b 263 (fun (_ : Unit) => ptr (g.nd (stepN (pathL t) s.length))) () X Y row hs.box hg hr, ownL_boxed B r 263 (fun (_ : Unit) => .pointer none) () X Y row hs.res hg hr, hs.isn, ownL_below (Nat.le_refl _) hB () X Y row hs.bel hg hr⟩
structure Sx (W : World) (L : List Ac) (t : Nm) (r : Nat) (W' : World) : Prop where
  res : Boxed W' r 263 (.pointer none)
  non : ¬ ∃ a ∈ L, a.nm = t
  bel : Below W.heap.size W W'
theorem Sx.own {W : World} {L : List Ac} {t : Nm} {r : Nat} {B : Nat} (hB : W.heap.size ≤ B) : OwnL B (fun (pre : List (Nat × Nm)) W' => Sx W L t r W') := fun s X Y row hs hg hr =>
  ⟨ownL_boxed B r 263 (fun (_ : Unit) => .pointer none) () X Y row hs.res hg hr, hs.non, ownL_below (Nat.le_refl _) hB () X Y row hs.bel hg hr⟩
theorem back_pre {l : List Nm} {pre : List (Nat × Nm)} {x : Nat × Nm} (h : pre ++ [x] <+: backL l) : pre.length < l.length ∧ x = (l.length - 1 - pre.length, stepN l (pre.length + 1)) := by
  have hl := h.length_le
  rw [backL_len] at hl
  simp at hl
  refine ⟨by omega, ?_⟩
  have h1 : (backL l)[pre.length]? = some x := by
    obtain ⟨t, ht⟩ := h
    rw [← ht]
    simp
  rw [List.getElem?_eq_getElem (by rw [backL_len]; omega)] at h1
  injection h1 with h1
  rw [← h1, backL_get l _ (by omega), stepN_succ (by omega), List.getD_eq_getElem?_getD, List.getElem?_eq_getElem (by omega)]
  rfl
set_option maxRecDepth 100000 in
set_option maxHeartbeats 4000000 in
theorem seek_any {W : World} {d : Nat} {S : Nat → Prop} {L : List Ac} {g : Gh} (h : ChAt W d S L g) (hG : Good L) (hS : ∀ k, S k → k < W.heap.size) (t : ByteArray) (ht : t.size < 4611686018427387904) :
    Calls Tryz.prog 218 #[ptr d, .string t] W fun e w' => e = .returned (seekV g L t.data.toList) ∧ Below W.heap.size W w' := by
  have dG := hide (good_any t ht)
  have dP := hide (path_any t ht)
  have HC := hide h; have HG := hide hG; have HS := hide hS
  have htop := h.top
  clear h hG hS
  by_cases hn : nameL t.data.toList = true
  · rw [hn] at dG
    have hm : 0 < (pathL t.data.toList).length := by rw [pathL, if_pos hn]; simp
    have HM := hide hm; have HN := hide hn
    clear hn hm
    refine (callsIn_wide (n := 4)).1 ?_
    refine callsIn_of_wp_marks Tryz.func218 rfl trivial ?_ rfl
    simp only [Tryz.ntmps218, List.size_toArray, List.length_cons, List.length_nil, Nat.reduceAdd, Nat.reduceSub, Array.replicate_succ, Array.replicate_zero, List.push_toArray, List.append_toArray, List.nil_append, List.cons_append]
    gi_wp2_with fail
    refine ⟨trivial, (callsIn_wide.2 (unhide dG _)).mono ?_⟩
    rintro e w1 ⟨rfl, hb1⟩
    have r1 : Hid (Boxed w1 W.heap.size 263 (.pointer none)) := (hb1.block W.heap.size (by simp)).trans (Boxed.new W 263 (.pointer none))
    have B1 : Hid (Below W.heap.size W w1) := ((Below.refl _ W).alloc (Nat.le_refl _) _).trans (hb1.mono (by simp))
    have z1 : Hid (W.heap.size + 1 ≤ w1.heap.size) := by have := hb1.size; simp at this; exact this
    clear hb1
    gi_wp2_with fail
    refine ⟨trivial, (callsIn_wide.2 (unhide dP _)).mono ?_⟩
    rintro e w3 ⟨v, rfl, hrow, _, hb3⟩
    obtain ⟨q, cq, f, ev, hq1, hq2, hq3⟩ := row_open hrow (unhide HM)
    subst ev
    obtain ⟨m, hme⟩ : ∃ m, m = (pathL t.data.toList).length := ⟨_, rfl⟩
    obtain ⟨b, hbe⟩ : ∃ b, b = w1.heap.size := ⟨_, rfl⟩
    have n3 : Boxed w3 b 263 (ptr d) := by rw [hbe]; exact (hb3.block _ (by simp)).trans (Boxed.new w1 263 (ptr d))
    have r3 : Boxed w3 W.heap.size 263 (.pointer none) := (hb3.block _ (by have := unhide z1; simp; omega)).trans ((unhide r1).alloc _)
    have B3 : Below W.heap.size W w3 := ((unhide B1).alloc (by have := unhide z1; omega) _).trans (hb3.mono (by have := unhide z1; simp; omega))
    have z3 : b + 1 ≤ w3.heap.size := by have := hb3.size; simp at this; omega
    rw [← hme]
    have dB := hide (back_any (some ⟨q, 0, none⟩) m cq w3)
    have Q2 := hide hq2; have Q3 := hide hq3; have N3 := hide n3; have R3 := hide r3; have BB := hide B3; have Z3 := hide z3
    have HB := hide hbe; have HME := hide hme
    rw [← hbe]
    clear hrow hb3 hq2 hq3 n3 r3 B3 z3 hq1 hbe hme
    gi_wp2_with fail
    refine ⟨trivial, (callsIn_wide.2 (unhide dB)).mono ?_⟩
    rintro e w4 ⟨rfl, hw4⟩
    have hm6 : m ≤ 6 := by rw [unhide HME]; exact path_len _
    have GV : Hid (GivesS gdB Tryz.prog 291 #[ptr w3.heap.size] encB (backL (pathL t.data.toList)) w4) := by
      rw [hw4]
      refine back_gives _ (by have := unhide HME; omega) w3.heap.size q cq f _ ?_ ?_ (unhide Q3)
      · rw [← unhide HME]; exact World.alloc_heap_new w3 _
      · exact (Below.heap_alloc _ _ _ (Array.getElem?_eq_some_iff.1 (unhide Q2)).1).trans (unhide Q2)
    have S4 : Hid (Sk W L g t.data.toList W.heap.size b 0 w4) := by
      rw [hw4]
      refine ⟨?_, (unhide R3).alloc _, .inl rfl, (unhide BB).alloc (unhide BB).size _⟩
      rw [stepN_zero, htop]
      exact (unhide N3).alloc _
    have z4 : Hid (W.heap.size + 1 ≤ w4.heap.size ∧ W.heap.size + 1 ≤ b) := by
      rw [hw4]
      have h1 := unhide Z3; have h2 := unhide z1; have h3 := unhide HB
      constructor
      · simp; omega
      · omega
    clear hw4
    gi_wp2_with fail
    refine range_st (α := Nat × Nm) gdB gdB_lpy (by omega) (gf := 291) (lb := #[ptr w3.heap.size]) rfl enters69 (unhide GV) (fun _ => rfl)
      (fun pre W' => Sk W L g t.data.toList W.heap.size b pre.length W') (fun pre W' => Sx W L t.data.toList W.heap.size W') (Sk.own (by have := (unhide S4).bel.size; omega)) (Sx.own (by have := (unhide S4).bel.size; omega)) (unhide S4)
      (fun x => { tmps := #[ptr d, .string t, undef, undef, ptr W.heap.size, ptr b, undef, .string (txN x.2), undef, undef, .string t, .bool true, .bool false, ptr d, ptr d, ptr d, .string t, .slice (some ⟨q, 0, none⟩) m cq, .func (.func 291) #[] #[ptr w3.heap.size], .int .i64 x.1, .string (txN x.2), undef, undef, undef, undef, undef, undef, undef, undef, undef, undef, undef, undef, undef, undef, undef, undef], defers := [] }) ?assign ?body ?done ?stop
    case assign =>
      intro l x W' K hK
      unfold encB
      gi_wp2
      exact hK
    case body =>
      rintro l pre x X hsk hpx
      obtain ⟨hk, rfl⟩ := back_pre hpx
      obtain ⟨k, hke⟩ : ∃ k, k = pre.length := ⟨_, rfl⟩
      rw [← hke] at hsk hk ⊢
      obtain ⟨hpar, hnm, hch⟩ := step_par (unhide HN) hk
      obtain ⟨s, hs⟩ : ∃ s, s = stepN (pathL t.data.toList) (k + 1) := ⟨_, rfl⟩
      obtain ⟨x, hx⟩ : ∃ x, x = stepN (pathL t.data.toList) k := ⟨_, rfl⟩
      rw [← hs] at hpar hnm hch ⊢
      rw [← hx] at hpar
      have hisn := hsk.isn
      rw [← hx] at hisn
      have hch4 : ChAt X d S L g := (unhide HC).keep (fun k hk => hsk.bel.block k (unhide HS k hk))
      have dPl := hide (place_any hch4 (unhide HG) hisn (txN s))
      rw [txN_list] at dPl
      have cb := hsk.box.cell
      rw [← hx] at cb
      have cr := hsk.res.cell
      have fr := hsk.res.frozen
      have fb := hsk.box.frozen
      have hmem : s ∈ kids L x ↔ ∃ a ∈ L, a.nm = s := by rw [mem_kids]; exact ⟨fun h => h.1, fun h => ⟨h, hpar⟩⟩
      have HSK := hide hsk
      have hlen : (pre ++ [((pathL t.data.toList).length - 1 - k, s)]).length = k + 1 := by simp [← hke]
      have HL := hide hlen
      by_cases hin : s ∈ kids L x
      · have hdec : decide (s ∈ kids L x) = true := decide_eq_true hin
        rw [hdec] at dPl
        rcases hch4.rowK hisn with h0 | ⟨q2, e2, hr2⟩
        · rw [h0] at hin; cases hin
        obtain ⟨hpl, hpe⟩ := pos_get ((unhide HG).kids_rise x) hin
        have c4 := hch4.kids4 hisn
        rw [e2] at c4
        have c5 := hr2.row _ hpl
        rw [hpe] at c5
        obtain ⟨po, hpo⟩ : ∃ po, po = posK (kids L x) s := ⟨_, rfl⟩
        rw [← hpo] at c5 hpl dPl
        obtain ⟨kn, hkn⟩ : ∃ kn, kn = (kids L x).length := ⟨_, rfl⟩
        rw [← hkn] at c4 hpl
        obtain ⟨nx, hnx⟩ : ∃ nx, nx = g.nd x := ⟨_, rfl⟩
        rw [← hnx] at c4 dPl cb
        obtain ⟨ns, hns⟩ : ∃ ns, ns = g.nd s := ⟨_, rfl⟩
        rw [← hns] at c5
        have HNS := hide hns; have HIN := hide (hmem.1 hin); have HSS := hide hs
        clear hpo hkn hnx hns hs hx hin hdec hr2 hch4 hmem hisn hpar hnm hch hsk hlen e2 hpx hpe hke
        gi_wp2_with fail
        refine ⟨trivial, (callsIn_wide.2 (unhide dPl)).mono ?_⟩
        rintro e X2 ⟨rfl, hX2⟩
        subst hX2
        gi_wp2
        refine .inl ⟨rfl, keepG_set63 (unhide HSK).box, ?_⟩
        show Sk W L g t.data.toList W.heap.size b (pre ++ [_]).length _
        rw [unhide HL]
        refine ⟨?_, (unhide HSK).res.other (by have := unhide z4; omega) _, ?_, (unhide HSK).bel.setCell (by have := unhide z4; show W.heap.size ≤ b; omega) _⟩
        · have h1 := (unhide HSK).box.set (ptr ns)
          rw [← unhide HSS, ← unhide HNS]
          exact h1
        · rw [← unhide HSS]; exact .inr (unhide HIN)
      · have hdec : decide (s ∈ kids L x) = false := decide_eq_false hin
        rw [hdec] at dPl
        obtain ⟨nx, hnx⟩ : ∃ nx, nx = g.nd x := ⟨_, rfl⟩
        rw [← hnx] at dPl cb
        have hno : Hid (¬ ∃ a ∈ L, a.nm = t.data.toList) := fun hex => hin (hmem.2 (by
          rcases List.mem_cons.1 hch with e | h
          · rw [e]; exact hex
          · exact (unhide HG).above _ _ (Nat.le_refl _) hex s h (name_ne hnm)))
        clear hnx hs hx hin hdec hch4 hmem hisn hpar hnm hch hsk hlen hpx hke
        gi_wp2_with fail
        refine ⟨trivial, (callsIn_wide.2 (unhide dPl)).mono ?_⟩
        rintro e X2 ⟨rfl, hX2⟩
        subst hX2
        gi_wp2
        exact .inr ⟨rfl, (keepG_set63 (unhide HSK).res).from _, ⟨(unhide HSK).res.set _, unhide hno, (unhide HSK).bel.setCell (Nat.le_refl _) _⟩⟩
    case done =>
      rintro D X hD hsk hK
      have hlen : (backL (pathL t.data.toList)).length = (pathL t.data.toList).length := backL_len _
      rw [hlen] at hsk
      have cb := hsk.box.cell
      rw [step_last (unhide HN)] at cb
      have hin := hsk.isn
      rw [step_last (unhide HN)] at hin
      have hval : seekV g L t.data.toList = ptr (g.nd t.data.toList) := by
        rcases hin with e | hin
        · exact absurd e (name_ne (unhide HN))
        · rw [seekV, if_pos hin]
      have HV := hide hval
      have cr := hsk.res.cell
      have fr := hsk.res.frozen
      obtain ⟨ns, hns⟩ : ∃ ns, ns = g.nd t.data.toList := ⟨_, rfl⟩
      rw [← hns] at cb
      have HNS := hide hns
      have HSK := hide hsk; have HK := hide hK
      have hz4 := unhide z4
      have hDb : Hid (W.heap.size < D) := by show W.heap.size < D; omega
      clear hns hval hin hlen hK hsk
      gi_wp2
      have hK2 : (X.setCell ⟨W.heap.size, 0, none⟩ (ptr ns)).heap[D]? = some (.deferred (some [])) := (Below.heap_setCell _ _ _ _ (by have := unhide hDb; show D ≠ W.heap.size; omega)).trans (unhide HK)
      refine ⟨by simp, .inl ⟨_, _, rfl, run_takeDeferred hK2, ?_⟩⟩
      refine ⟨_, result31 (a := ⟨W.heap.size, 0, none⟩) (p := some ⟨ns, 0, none⟩) rfl ?_, by rw [unhide HV, ← unhide HNS], ((unhide HSK).bel.setCell (Nat.le_refl _) _).trans (belowK_b (w := W) (Nat.le_refl _) _ D _ _ (by have := unhide hDb; omega) hK2 rfl rfl)⟩
      exact (cell_kept (World.cell?_setCell_same _ _ _ cr) (grownBy_putObj' _ _ _) (fun r e => by cases e; exact ⟨_, hK2, rfl⟩))
    case stop =>
      rintro D pre X hD hp hsx hK
      have cr := hsx.res.cell
      have hval : seekV g L t.data.toList = .pointer none := by rw [seekV, if_neg hsx.non]
      have HV := hide hval
      have HSX := hide hsx; have HK := hide hK
      clear hval hsx hK
      gi_wp2
      refine ⟨by simp, .inl ⟨_, _, rfl, run_takeDeferred (unhide HK), ?_⟩⟩
      refine ⟨_, result31 (a := ⟨W.heap.size, 0, none⟩) (p := none) rfl ?_, by rw [unhide HV], (unhide HSX).bel.trans (belowK_b (w := W) (Nat.le_refl _) _ D _ _ (by have := unhide z4; omega) (unhide HK) rfl rfl)⟩
      exact (cell_kept cr (grownBy_putObj' _ _ _) (fun r e => by cases e; exact ⟨_, unhide HK, rfl⟩))
  · have hf : nameL t.data.toList = false := by simpa using hn
    rw [hf] at dG
    have hval : seekV g L t.data.toList = .pointer none := by
      rw [seekV, if_neg]
      rintro ⟨a, ha, e⟩
      have := (unhide HG).name a ha
      rw [e, hf] at this
      cases this
    rw [hval]
    clear hf hn hval
    refine (callsIn_wide (n := 4)).1 ?_
    refine callsIn_of_wp_marks Tryz.func218 rfl trivial ?_ rfl
    simp only [Tryz.ntmps218, List.size_toArray, List.length_cons, List.length_nil, Nat.reduceAdd, Nat.reduceSub, Array.replicate_succ, Array.replicate_zero, List.push_toArray, List.append_toArray, List.nil_append, List.cons_append]
    gi_wp2_with fail
    refine ⟨trivial, (callsIn_wide.2 (unhide dG _)).mono ?_⟩
    rintro e w1 ⟨rfl, hb1⟩
    have r1 : Boxed w1 W.heap.size 263 (.pointer none) := (hb1.block W.heap.size (by simp)).trans (Boxed.new W 263 (.pointer none))
    have B1 : Hid (Below W.heap.size W w1) := ((Below.refl _ W).alloc (Nat.le_refl _) _).trans (hb1.mono (by simp))
    have cr := r1.cell
    have fr := r1.frozen
    clear hb1 r1
    gi_wp2
    refine ⟨_, result31 (a := ⟨W.heap.size, 0, none⟩) (p := none) rfl (World.cell?_setCell_same _ _ _ cr), rfl, (unhide B1).setCell (Nat.le_refl _) _⟩
end Go.Proofs.YtcafhmlpmbkhkaaGreatDoor.Ch
