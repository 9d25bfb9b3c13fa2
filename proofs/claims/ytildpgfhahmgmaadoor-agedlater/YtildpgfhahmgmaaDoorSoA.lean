/- aged: cmp.Compare (50, 51), cmp.Or (49), Open$1 (48), SortFunc (47). -/
import Derived.Test.YtildpgfhahmgmaaDoorSoN
import Derived.Test.YtildpgfhahmgmaaDoorVwA
import Derived.Test.YtildpgfhahmgmaaDoorRgs
import Derived.Test.YtildpgfhahmgmaaDoorSrt
namespace Go.Proofs.YtildpgfhahmgmaaDoor
open Go Go.Shelf Go.ChangeShapes Go.WideShapes Go.ChangeAt Go.RowKit Go.Maps Go.Sort
set_option linter.unusedVariables false
theorem nan_any (x : Int) (w : World) : Calls Tryd.prog 58 #[.int .i64 x] w fun e w' => e = .returned (.bool false) ∧ w' = w := by
  have hx : (x != x) = false := by simp
  go_enter Tryd.func58, Tryd.ntmps58
  go_wp2_with fail
  go_ret
  exact ⟨rfl, rfl⟩
theorem nans_any (x : ByteArray) (w : World) : Calls Tryd.prog 59 #[.string x] w fun e w' => e = .returned (.bool false) ∧ w' = w := by
  have hx : (x.toList == x.toList) = true := by simp
  go_enter Tryd.func59, Tryd.ntmps59
  go_wp2_with fail
  go_ret
  exact ⟨rfl, rfl⟩
theorem cmp_any (x y : Int) (w : World) : Calls Tryd.prog 50 #[.int .i64 x, .int .i64 y] w fun e w' => e = .returned (.int .i64 (cmpI x y)) ∧ w' = w := by
  have d1 := hide (nan_any x); have d2 := hide (nan_any y)
  by_cases h1 : x < y
  · rw [cmpI, if_pos h1]
    go_enter Tryd.func50, Tryd.ntmps50
    go_wp2_with fail
    refine (unhide d1 _).mono ?_
    rintro e w' ⟨rfl, rfl⟩
    go_wp2_with fail
    refine (unhide d2 _).mono ?_
    rintro e w' ⟨rfl, rfl⟩
    go_wp2_with fail
    go_ret
    exact ⟨rfl, rfl⟩
  · by_cases h2 : x > y
    · rw [cmpI, if_neg h1, if_pos h2]
      go_enter Tryd.func50, Tryd.ntmps50
      go_wp2_with fail
      refine (unhide d1 _).mono ?_
      rintro e w' ⟨rfl, rfl⟩
      go_wp2_with fail
      refine (unhide d2 _).mono ?_
      rintro e w' ⟨rfl, rfl⟩
      go_wp2_with fail
      go_ret
      exact ⟨rfl, rfl⟩
    · rw [cmpI, if_neg h1, if_neg h2]
      go_enter Tryd.func50, Tryd.ntmps50
      go_wp2_with fail
      refine (unhide d1 _).mono ?_
      rintro e w' ⟨rfl, rfl⟩
      go_wp2_with fail
      refine (unhide d2 _).mono ?_
      rintro e w' ⟨rfl, rfl⟩
      go_wp2_with fail
      go_ret
      exact ⟨rfl, rfl⟩
theorem cmps_any (x y : ByteArray) (w : World) : Calls Tryd.prog 51 #[.string x, .string y] w fun e w' => e = .returned (.int .i64 (cmpS x.data.toList y.data.toList)) ∧ w' = w := by
  have d1 := hide (nans_any x); have d2 := hide (nans_any y)
  have e1 : Op.bytesLess x.toList y.toList = decide (x.data.toList < y.data.toList) := by rw [bytesLess_eq, ByteArray.toList_eq, ByteArray.toList_eq]
  have e2 : (x.toList == y.toList) = decide (x.data.toList = y.data.toList) := by rw [ByteArray.toList_eq, ByteArray.toList_eq]; exact Bool.eq_iff_iff.2 (by rw [beq_iff_eq, decide_eq_true_iff])
  by_cases h1 : x.data.toList < y.data.toList
  · rw [cmpS, if_pos h1]
    rw [decide_eq_true h1] at e1
    clear e2 h1
    go_enter Tryd.func51, Tryd.ntmps51
    go_wp2_with fail
    refine (unhide d1 _).mono ?_
    rintro e w' ⟨rfl, rfl⟩
    go_wp2_with fail
    refine (unhide d2 _).mono ?_
    rintro e w' ⟨rfl, rfl⟩
    go_wp2_with fail
    go_ret
    exact ⟨rfl, rfl⟩
  · rw [decide_eq_false h1] at e1
    by_cases h2 : x.data.toList = y.data.toList
    · rw [cmpS, if_neg h1, if_pos h2]
      rw [decide_eq_true h2] at e2
      clear h1 h2
      go_enter Tryd.func51, Tryd.ntmps51
      go_wp2_with fail
      refine (unhide d1 _).mono ?_
      rintro e w' ⟨rfl, rfl⟩
      go_wp2_with fail
      refine (unhide d2 _).mono ?_
      rintro e w' ⟨rfl, rfl⟩
      go_wp2_with fail
      go_ret
      exact ⟨rfl, rfl⟩
    · rw [cmpS, if_neg h1, if_neg h2]
      rw [decide_eq_false h2] at e2
      clear h1 h2
      go_enter Tryd.func51, Tryd.ntmps51
      go_wp2_with fail
      refine (unhide d1 _).mono ?_
      rintro e w' ⟨rfl, rfl⟩
      go_wp2_with fail
      refine (unhide d2 _).mono ?_
      rintro e w' ⟨rfl, rfl⟩
      go_wp2_with fail
      go_ret
      exact ⟨rfl, rfl⟩
def or3 (a b c : Int) : Int := if a ≠ 0 then a else if b ≠ 0 then b else c
set_option maxHeartbeats 2000000 in
theorem or_any {W : World} {g : Nat} {a b c : Int} (h0 : W.cell? ⟨g, 0, none⟩ = some (.int .i64 a)) (h1 : W.cell? ⟨g, 1, none⟩ = some (.int .i64 b)) (h2 : W.cell? ⟨g, 2, none⟩ = some (.int .i64 c)) :
    Calls Tryd.prog 49 #[.slice (some ⟨g, 0, none⟩) 3 3] W fun e w' => e = .returned (.int .i64 (or3 a b c)) ∧ w' = W := by
  have HO : Hid (∀ z, z = or3 a b c → (Ending.returned (.int .i64 z) = .returned (.int .i64 (or3 a b c)))) := fun z h => by rw [h]
  go_enter Tryd.func49, Tryd.ntmps49
  go_wp2_with fail
  go_loopw [8] (fun v8 wr => ∃ (j : Nat), v8 = .int .i64 j ∧ j ≤ 3 ∧ Hid (wr = W) ∧ Hid ((0 < j → a = 0) ∧ (1 < j → b = 0) ∧ (2 < j → c = 0))) (fun v8 _ => 3 - (intOf v8).toNat)
  case atStart => exact ⟨0, rfl, by omega, rfl, by omega, by omega, by omega⟩
  case round =>
    obtain ⟨j, rfl, hj, hw, hz⟩ := hrel
    have hw := unhide hw
    subst hw
    have : j = 0 ∨ j = 1 ∨ j = 2 ∨ j = 3 := by omega
    rcases this with rfl | rfl | rfl | rfl
    · by_cases e : a = 0
      · have HZ : Hid ((0 < 1 → a = 0) ∧ (1 < 1 → b = 0) ∧ (2 < 1 → c = 0)) := ⟨fun _ => e, by omega, by omega⟩
        have hb : (a != 0) = false := by simp [e]
        go_wp2_with fail
        exact ⟨⟨1, rfl, by omega, trivial, unhide HZ⟩, by simp [intOf]⟩
      · have hb : (a != 0) = true := by simp [e]
        have HF := hide (unhide HO a (by unfold or3; rw [if_pos e]))
        go_wp2_with fail
        go_ret
        exact ⟨unhide HF, rfl⟩
    · by_cases e : b = 0
      · have HZ : Hid ((0 < 2 → a = 0) ∧ (1 < 2 → b = 0) ∧ (2 < 2 → c = 0)) := ⟨fun _ => (unhide hz).1 (by omega), fun _ => e, by omega⟩
        have hb : (b != 0) = false := by simp [e]
        go_wp2_with fail
        exact ⟨⟨2, rfl, by omega, trivial, unhide HZ⟩, by simp [intOf]⟩
      · have hb : (b != 0) = true := by simp [e]
        have HF := hide (unhide HO b (by unfold or3; rw [if_neg (fun h => h ((unhide hz).1 (by omega))), if_pos e]))
        go_wp2_with fail
        go_ret
        exact ⟨unhide HF, rfl⟩
    · by_cases e : c = 0
      · have HZ : Hid ((0 < 3 → a = 0) ∧ (1 < 3 → b = 0) ∧ (2 < 3 → c = 0)) := ⟨fun _ => (unhide hz).1 (by omega), fun _ => (unhide hz).2.1 (by omega), fun _ => e⟩
        have hb : (c != 0) = false := by simp [e]
        go_wp2_with fail
        exact ⟨⟨3, rfl, by omega, trivial, unhide HZ⟩, by simp [intOf]⟩
      · have hb : (c != 0) = true := by simp [e]
        have HF := hide (unhide HO c (by unfold or3; rw [if_neg (fun h => h ((unhide hz).1 (by omega))), if_neg (fun h => h ((unhide hz).2.1 (by omega)))]))
        go_wp2_with fail
        go_ret
        exact ⟨unhide HF, rfl⟩
    · have HF := hide (unhide HO 0 (by unfold or3; rw [if_neg (fun h => h ((unhide hz).1 (by omega))), if_neg (fun h => h ((unhide hz).2.1 (by omega))), (unhide hz).2.2 (by omega)]))
      go_wp2_with fail
      go_ret
      exact ⟨unhide HF, rfl⟩
def Cl.agg (c : Cl) : Value := .agg #[.string c.key, .string c.acc, .int .i64 c.day, .int .i64 c.due, .int .i64 c.amt]
set_option maxHeartbeats 4000000 in
set_option maxRecDepth 100000 in
theorem cl48 (x y : Cl) (W : World) : Calls Tryd.prog 48 #[x.agg, y.agg] W fun e w' => e = .returned (.int .i64 (cmp3 x y)) ∧ ∃ q os', w' = grow (W.drewN q) os' := by
  have d1 := hide (cmp_any x.due y.due)
  have d2 := hide (cmp_any x.day y.day)
  have d3 := hide (cmps_any x.key y.key)
  obtain ⟨o1, ho1⟩ : ∃ o1, o1 = Obj.cells #[.string x.key, .string x.acc, .int .i64 x.day, .int .i64 x.due, .int .i64 x.amt] 37 (0, 0) := ⟨_, rfl⟩
  obtain ⟨o2, ho2⟩ : ∃ o2, o2 = Obj.cells #[.string y.key, .string y.acc, .int .i64 y.day, .int .i64 y.due, .int .i64 y.amt] 37 (0, 0) := ⟨_, rfl⟩
  obtain ⟨A, hA⟩ : ∃ A, A = ((W.alloc o1).alloc o2).drew := ⟨_, rfl⟩
  have hb1 : A.heap[W.heap.size]? = some o1 := by rw [hA]; exact (Below.heap_alloc _ _ _ (by simp)).trans (by show (W.heap.push o1)[W.heap.size]? = _; simp)
  have hb2 : A.heap[W.heap.size + 1]? = some o2 := by
    rw [hA]
    show ((W.heap.push o1).push o2)[W.heap.size + 1]? = _
    rw [Array.getElem?_push, if_pos (by simp)]
  obtain ⟨r1, hr1⟩ : ∃ r1, r1 = cmpI x.due y.due := ⟨_, rfl⟩
  obtain ⟨r2, hr2⟩ : ∃ r2, r2 = cmpI x.day y.day := ⟨_, rfl⟩
  obtain ⟨r3, hr3⟩ : ∃ r3, r3 = cmpS x.key.data.toList y.key.data.toList := ⟨_, rfl⟩
  rw [← hr1] at d1
  rw [← hr2] at d2
  rw [← hr3] at d3
  obtain ⟨B, hB⟩ : ∃ B, B = A.alloc (.cells #[.int .i64 r1, .int .i64 r2, .int .i64 r3] 3) := ⟨_, rfl⟩
  have hb3 : B.heap[A.heap.size]? = some (.cells #[.int .i64 r1, .int .i64 r2, .int .i64 r3] 3 (0, 0)) := by rw [hB]; show (A.heap.push _)[A.heap.size]? = _; simp
  have dO := hide (or_any (W := B) (g := A.heap.size) (a := r1) (b := r2) (c := r3) (by simp [World.cell?, hb3]) (by simp [World.cell?, hb3]) (by simp [World.cell?, hb3]))
  have hv : or3 r1 r2 r3 = cmp3 x y := by rw [hr1, hr2, hr3]; rfl
  rw [hv] at dO
  have a3 : A.cell? ⟨W.heap.size, 3, none⟩ = some (.int .i64 x.due) := by simp [World.cell?, hb1, ho1]
  have a2 : A.cell? ⟨W.heap.size, 2, none⟩ = some (.int .i64 x.day) := by simp [World.cell?, hb1, ho1]
  have a0 : A.cell? ⟨W.heap.size, 0, none⟩ = some (.string x.key) := by simp [World.cell?, hb1, ho1]
  have b3 : A.cell? ⟨W.heap.size + 1, 3, none⟩ = some (.int .i64 y.due) := by simp [World.cell?, hb2, ho2]
  have b2 : A.cell? ⟨W.heap.size + 1, 2, none⟩ = some (.int .i64 y.day) := by simp [World.cell?, hb2, ho2]
  have b0 : A.cell? ⟨W.heap.size + 1, 0, none⟩ = some (.string y.key) := by simp [World.cell?, hb2, ho2]
  have hAs : A.heap.size = W.heap.size + 2 := by rw [hA]; simp
  have HEND : Hid (∃ q os', B = grow (W.drewN q) os') := ⟨1, _, by rw [hB, hA]; rw [alloc_eq_grow]; show grow (((W.alloc o1).alloc o2).drew) _ = _; rw [show ((W.alloc o1).alloc o2).drew = ((W.drewN 1).alloc o1).alloc o2 from rfl, alloc_eq_grow, alloc_eq_grow, grow_grow, grow_grow]⟩
  have HA : Hid (A = ((W.alloc o1).alloc o2).drew) := hA
  rw [ho1, ho2] at HA
  have HB := hide hB; have HAs := hide hAs
  unfold Cl.agg
  clear hA hB hb1 hb2 hb3 hv hr1 hr2 hr3 ho1 ho2 hAs
  go_enter Tryd.func48, Tryd.ntmps48
  go_wp2_with fail
  refine wp_region_last (n := 18) (S := fun W' => W'.cell? ⟨W.heap.size, 3, none⟩ = some (.int .i64 x.due) ∧ W'.cell? ⟨W.heap.size, 2, none⟩ = some (.int .i64 x.day) ∧ W'.cell? ⟨W.heap.size, 0, none⟩ = some (.string x.key) ∧ W'.cell? ⟨W.heap.size + 1, 3, none⟩ = some (.int .i64 y.due) ∧ W'.cell? ⟨W.heap.size + 1, 2, none⟩ = some (.int .i64 y.day) ∧ W'.cell? ⟨W.heap.size + 1, 0, none⟩ = some (.string y.key)) (by kernel_rfl) (by rw [← unhide HA]; exact ⟨a3, a2, a0, b3, b2, b0⟩) (fun hHeld => ?_)
  rw [← unhide HA] at hHeld ⊢
  refine tkW 0 ?_; refine tkN 1 ?_; refine tkW 2 ?_; refine tkN 3 ?_; refine tkW 5 ?_; refine tkN 6 ?_; refine tkW 7 ?_; refine tkN 8 ?_; refine tkW 10 ?_; refine tkN 11 ?_; refine tkW 12 ?_; refine tkN 13 ?_
  refine wpAnyL_one (i := 4) (by kernel_rfl) rfl (fun KK hK => ?_)
  go_simp
  go_wp2_with (first | (go_at_call 50; refine (unhide d1 _).mono ?_; rintro e w2 ⟨rfl, hw⟩; rw [hw]; clear hw w2))
  refine hK.out _ _ (by exact ⟨a3, a2, a0, b3, b2, b0⟩) (fun hHeld => ?_)
  clear hK KK
  refine wpAnyL_one (i := 9) (by kernel_rfl) rfl (fun KK hK => ?_)
  go_simp
  go_wp2_with (first | (go_at_call 50; refine (unhide d2 _).mono ?_; rintro e w2 ⟨rfl, hw⟩; rw [hw]; clear hw w2))
  refine hK.out _ _ (by exact ⟨a3, a2, a0, b3, b2, b0⟩) (fun hHeld => ?_)
  clear hK KK
  refine wpAnyL_one (i := 14) (by kernel_rfl) rfl (fun KK hK => ?_)
  go_simp
  go_wp2_with (first | (go_at_call 51; refine (unhide d3 _).mono ?_; rintro e w2 ⟨rfl, hw⟩; rw [hw]; clear hw w2))
  refine hK.out _ _ (by exact ⟨a3, a2, a0, b3, b2, b0⟩) (fun hHeld => ?_)
  clear hK KK
  have hAs := unhide HAs
  have B3 : ∀ (b i : Nat) v, b < W.heap.size + 2 → A.cell? ⟨b, i, none⟩ = some v → B.cell? ⟨b, i, none⟩ = some v := fun b i v hb h => by
    rw [unhide HB, World.cell?_alloc_lt _ _ _ (by show b < A.heap.size; omega)]; exact h
  have SB := (⟨B3 _ _ _ (by omega) a3, B3 _ _ _ (by omega) a2, B3 _ _ _ (by omega) a0, B3 _ _ _ (by omega) b3, B3 _ _ _ (by omega) b2, B3 _ _ _ (by omega) b0⟩ : B.cell? ⟨W.heap.size, 3, none⟩ = some (.int .i64 x.due) ∧ B.cell? ⟨W.heap.size, 2, none⟩ = some (.int .i64 x.day) ∧ B.cell? ⟨W.heap.size, 0, none⟩ = some (.string x.key) ∧ B.cell? ⟨W.heap.size + 1, 3, none⟩ = some (.int .i64 y.due) ∧ B.cell? ⟨W.heap.size + 1, 2, none⟩ = some (.int .i64 y.day) ∧ B.cell? ⟨W.heap.size + 1, 0, none⟩ = some (.string y.key))
  clear B3 hAs
  refine wpAnyL_one (i := 15) (by kernel_rfl) rfl (fun KK hK => ?_)
  go_simp
  rw [← unhide HB]
  refine hK.out _ _ (by exact SB) (fun hHeld => ?_)
  clear hK KK
  refine wpAnyL_one (i := 16) (by kernel_rfl) rfl (fun KK hK => ?_)
  go_simp
  go_wp2_with (first | (go_at_call 49; refine (unhide dO).mono ?_; rintro e w2 ⟨rfl, hw⟩; rw [hw]; clear hw w2))
  refine hK.out _ _ (by exact SB) (fun hHeld => ?_)
  clear hK KK
  refine tkW 17 ?_
  refine wpAnyL_done (by kernel_rfl) ?_
  go_wp2_with fail
  go_ret
  exact ⟨rfl, unhide HEND⟩
theorem lays48 [Inhabited Cl] (blk off size : Nat) (w : World) : CmpLays Tryd.prog 48 #[] kC.enc 5 cmp3 blk off size w :=
  fun _ _ _ _ x y => cl48 x y _
variable {α : Type} {K : Kd α}
theorem isAgg37s (w : World) : (isAgg (Tryd.sortT_ren.t 24)).run Tryd.prog w = .ok true w := by kernel_rfl
theorem sizeOf37s (w : World) : (Go.sizeOf (Tryd.sortT_ren.t 24)).run Tryd.prog w = .ok 5 w := by kernel_rfl
theorem holds_own (hK : KdOK K) [Inhabited α] {W : World} {B g c n : Nat} {L : List α} (hn : L.length = n) (h : W.ownsRow B K.e K.s (.slice (some ⟨g, 0, none⟩) n c) n (K.flat L)) : HoldsK K.enc K.s W g 0 L.toArray := by
  rcases h.2 with ⟨e, h2⟩ | ⟨g', cap, cur, e, hB, hh, hc, hm, hcs, ht⟩
  · cases e
  · cases e
    intro j hj
    have hj' : j < L.length * K.s := by simpa using hj
    have hL := own_lies hK hn h
    have hk : j / K.s < L.length := Nat.div_lt_of_lt_mul (by rw [Nat.mul_comm]; exact hj')
    have hmod : j % K.s < K.s := Nat.mod_lt _ hK.pos
    obtain ⟨b, off, e, hlt, hr⟩ := hL.2 (j / K.s) hk
    cases e
    refine ⟨?_, ?_⟩
    · rw [get_flatK _ _ _ _ (by simpa using hj')]
      have e1 : L.toArray[j / K.s]! = L[j / K.s] := by simp [hk]
      rw [e1]
      have e2 : (K.enc L[j / K.s])[j % K.s]? = some ((K.enc L[j / K.s])[j % K.s]!) := by
        rw [List.getElem?_eq_getElem (by rw [hK.len]; exact hmod), List.getElem!_eq_getElem?_getD, List.getElem?_eq_getElem (by rw [hK.len]; exact hmod)]
        rfl
      have h4 := hr (j % K.s) _ e2
      rw [Nat.zero_add, Nat.div_add_mod' j K.s] at h4
      rw [Nat.zero_add]
      exact h4
    · unfold World.frozen?
      simp only [hh]
      simp
theorem lies_holds (hK : KdOK K) [Inhabited α] {W : World} {g : Nat} (hg : g < W.heap.size) {d : Array α} (h : HoldsK K.enc K.s W g 0 d) : Lies K W (some ⟨g, 0, none⟩) d.toList := by
  refine ⟨(fun h => by cases h), fun k hk => ⟨g, 0, rfl, hg, fun j u hu => ?_⟩⟩
  have hk' : k < d.size := by simpa using hk
  have hj : j < K.s := by
    have := (List.getElem?_eq_some_iff.1 hu).1
    rwa [hK.len] at this
  have hlt : k * K.s + j < d.size * K.s := by
    have : (k + 1) * K.s ≤ d.size * K.s := Nat.mul_le_mul_right _ (by omega)
    rw [Nat.add_mul, Nat.one_mul] at this
    omega
  have h1 := (h (k * K.s + j) (by simpa using hlt)).1
  rw [get_flatK _ _ _ _ hlt, Nat.mul_comm k K.s, Nat.mul_add_div hK.pos, Nat.div_eq_of_lt hj, Nat.add_zero, Nat.mul_add_mod, Nat.mod_eq_of_lt hj] at h1
  rw [Nat.zero_add, Nat.mul_comm k K.s]
  rw [Nat.zero_add] at h1
  rw [h1]
  have e1 : d[k]! = d.toList[k] := by simp [hk']
  have h2 := List.getElem?_eq_some_iff.1 hu
  obtain ⟨h3, h4⟩ := h2
  rw [e1]
  show some (id _) = some u
  rw [← h4, List.getElem!_eq_getElem?_getD, List.getElem?_eq_getElem h3]
  rfl
theorem below_sortK [Inhabited α] (enc : α → List Value) (k : Nat) (W : World) (g off m B : Nat) (d : Array α) (os : Array Obj) (hB : B ≤ g) (hBW : B ≤ W.heap.size) : Below B W (sortWorldK enc k W g off m d os) := by
  refine ⟨rfl, rfl, rfl, ?_, fun q hq => ?_⟩
  · unfold sortWorldK grow putRowK putRow mapBlock Sort.ahead
    simp
  · unfold sortWorldK grow putRowK putRow mapBlock Sort.ahead
    show (W.heap.modify g _ ++ os)[q]? = W.heap[q]?
    rw [Array.getElem?_append_left (by simp; omega), Array.getElem?_modify, if_neg (by omega)]
set_option maxHeartbeats 1000000 in
/-- SortFunc: what lies there, by its days -/
theorem sort_any [Inhabited Cl] {W : World} {B g c n : Nat} {L : List Cl} (hn : L.length = n) (hn1 : n < 4611686018427387904) (hB : B ≤ W.heap.size) (h : W.ownsRow B kC.e kC.s (.slice (some ⟨g, 0, none⟩) n c) n (kC.flat L)) :
    Calls Tryd.prog 47 #[.slice (some ⟨g, 0, none⟩) n c, .func (.func 48) #[] #[]] W fun e w' => e = .returned (.tuple #[]) ∧ ∃ A : List Cl, A.Perm L ∧ A.Pairwise (fun a b => ¬ Lt3 b a) ∧ Lies kC w' (some ⟨g, 0, none⟩) A ∧ Below B W w' := by
  have eg : ∀ args w, (callFunc 48 args).run Tryd.prog w = .ok (.enter 48 args) w := enters_of Tryd.func48 (by kernel_rfl) rfl
  have hg := row_block h (g := g) rfl
  have hcon := AnyQ.slices_SortFunc Tryd.sortT 5 isAgg37s sizeOf37s kC.enc (fun _ => rfl) kC_ok.one cmp3 swoC 48 #[] g 0 c L.toArray W eg (lays48 g 0 _ W) (holds_own kC_ok hn h) hg.2.1 (by simpa [hn] using hn1)
  change Calls Tryd.prog 47 _ _ _ at hcon
  rw [show L.toArray.size = n by simpa using hn] at hcon
  refine hcon.mono ?_
  rintro e w' ⟨rfl, d', m, os, hp, hs, rfl⟩
  have hd : d'.size = n := by rw [hp.1]; simpa using hn
  refine ⟨rfl, d'.toList, ?_, ?_, ?_, ?_⟩
  · have h3 := hp.2.2
    have e1 : d'.extract 0 n = d' := by rw [← hd]; simp
    have e2 : L.toArray.extract 0 n = L.toArray := by rw [← hn]; simp
    rw [e1, e2] at h3
    simpa using h3
  · rw [List.pairwise_iff_getElem]
    intro i j hi hj hij
    have := hs i j (Nat.zero_le _) hij (by rw [← hd]; simpa using hj)
    rw [ltC'] at this
    have hi' : i < d'.size := by simpa using hi
    have hj' : j < d'.size := by simpa using hj
    have e1 : d'[i]! = d'.toList[i] := by simp [hi']
    have e2 : d'[j]! = d'.toList[j] := by simp [hj']
    rw [e1, e2] at this
    exact this
  · refine lies_holds kC_ok (lt_sortWorldK _ _ _ _ _ _ _ _ hg.2.1) ?_
    exact holdsK_sortWorldK _ _ _ _ _ _ L.toArray d' os hg.2.1 (holds_own kC_ok hn h) (by rw [hd]; simpa using hn.symm)
  · exact below_sortK _ _ _ _ _ _ _ _ _ hg.1 hB
end Go.Proofs.YtildpgfhahmgmaaDoor
