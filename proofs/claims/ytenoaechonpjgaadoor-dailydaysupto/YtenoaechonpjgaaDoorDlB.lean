/- daily: lists of what is told: cmp.Compare (46), behind$1 (45), SortFunc (44), Clone (43), cutDay (31). -/
import Derived.Test.YtenoaechonpjgaaDoorDlR
import Derived.Test.YtenoaechonpjgaaDoorSrt
namespace Go.Proofs.YtenoaechonpjgaaDoor
open Go Go.Shelf Go.ChangeShapes Go.WideShapes Go.ChangeAt Go.RowKit Go.Maps Go.Sort
set_option linter.unusedVariables false
theorem nan_any (x : Int) (w : World) : Calls Tryd.prog 58 #[.int .i64 x] w fun e w' => e = .returned (.bool false) ∧ w' = w := by
  have hx : (x != x) = false := by simp
  go_enter Tryd.func58, Tryd.ntmps58
  go_wp2_with fail
  go_ret
  exact ⟨rfl, rfl⟩
def cmpI (x y : Int) : Int := if x < y then -1 else if x > y then 1 else 0
theorem cmp_any (x y : Int) (w : World) : Calls Tryd.prog 46 #[.int .i64 x, .int .i64 y] w fun e w' => e = .returned (.int .i64 (cmpI x y)) ∧ w' = w := by
  have d1 := hide (nan_any x); have d2 := hide (nan_any y)
  by_cases h1 : x < y
  · rw [cmpI, if_pos h1]
    go_enter Tryd.func46, Tryd.ntmps46
    go_wp2_with fail
    refine (unhide d1 _).mono ?_
    rintro e w' ⟨rfl, rfl⟩
    go_wp2_with fail
    refine (unhide d2 _).mono ?_
    rintro e w' ⟨rfl, rfl⟩
    go_wp2_with fail
    go_ret
    exact ⟨rfl, rfl⟩
  · by_cases h2 : x > y
    · rw [cmpI, if_neg h1, if_pos h2]
      go_enter Tryd.func46, Tryd.ntmps46
      go_wp2_with fail
      refine (unhide d1 _).mono ?_
      rintro e w' ⟨rfl, rfl⟩
      go_wp2_with fail
      refine (unhide d2 _).mono ?_
      rintro e w' ⟨rfl, rfl⟩
      go_wp2_with fail
      go_ret
      exact ⟨rfl, rfl⟩
    · rw [cmpI, if_neg h1, if_neg h2]
      go_enter Tryd.func46, Tryd.ntmps46
      go_wp2_with fail
      refine (unhide d1 _).mono ?_
      rintro e w' ⟨rfl, rfl⟩
      go_wp2_with fail
      refine (unhide d2 _).mono ?_
      rintro e w' ⟨rfl, rfl⟩
      go_wp2_with fail
      go_ret
      exact ⟨rfl, rfl⟩
set_option maxHeartbeats 1000000 in
theorem cl45 (x y : Int × Int) (W : World) : Calls Tryd.prog 45 #[.agg #[.int .i64 x.1, .int .i64 x.2], .agg #[.int .i64 y.1, .int .i64 y.2]] W fun e w' => e = .returned (.int .i64 (cmpI x.1 y.1)) ∧ ∃ q os', w' = grow (W.drewN q) os' := by
  have hcon := fun W' => cmp_any x.1 y.1 W'
  generalize cmpI x.1 y.1 = r at hcon ⊢
  go_enter Tryd.func45, Tryd.ntmps45
  go_wp2_with (go_at_call 46; refine (hcon _).mono ?_; rintro e w' ⟨rfl, rfl⟩)
  go_ret
  exact ⟨rfl, 0, _, by rw [alloc_eq_grow, alloc_eq_grow, grow_grow]; rfl⟩
theorem lays45 (blk off size : Nat) (w : World) : CmpLays Tryd.prog 45 #[] kT.enc 2 (fun x y => cmpI x.1 y.1) blk off size w :=
  fun _ _ _ _ x y => cl45 x y _
theorem ltD (x y : Int × Int) : ltOf (fun x y : Int × Int => cmpI x.1 y.1) x y = decide (x.1 < y.1) := by
  unfold ltOf cmpI
  by_cases h1 : x.1 < y.1
  · simp [h1]
  · by_cases h2 : y.1 < x.1 <;> simp [h1, h2]
theorem swoD : SWO (ltOf fun x y : Int × Int => cmpI x.1 y.1) where
  irrefl x := by rw [ltD]; simp
  trans x y z h1 h2 := by rw [ltD] at *; simp at *; omega
  ntrans x y z h1 h2 := by rw [ltD] at *; simp at *; omega
variable {α : Type} {K : Kd α}
theorem isAgg74 (w : World) : (isAgg (Tryd.sortT_ren.t 24)).run Tryd.prog w = .ok true w := by kernel_rfl
theorem sizeOf74 (w : World) : (Go.sizeOf (Tryd.sortT_ren.t 24)).run Tryd.prog w = .ok 2 w := by kernel_rfl
theorem holds_own (hK : KdOK K) [Inhabited α] {W : World} {B g c n : Nat} {L : List α} (hn : L.length = n) (h : W.ownsRow B K.e K.s (.slice (some ⟨g, 0, none⟩) n c) n (K.flat L)) : HoldsK K.enc K.s W g 0 L.toArray := by
  rcases h.2 with ⟨e, h2⟩ | ⟨g', cap, cur, e, hB, hh, hc, hm, hcs, ht⟩
  · cases e
  · cases e
    intro j hj
    have hj' : j < L.length * K.s := by simpa using hj
    have hL := own_lies hK hn h
    have hk : j / K.s < L.length := Nat.div_lt_of_lt_mul (by rw [Nat.mul_comm]; exact hj')
    have hmod : j % K.s < K.s := Nat.mod_lt _ hK.pos
    obtain ⟨b, off, e, hlt, hr⟩ := hL.2 (j / K.s) hk
    cases e
    refine ⟨?_, ?_⟩
    · rw [get_flatK _ _ _ _ (by simpa using hj')]
      have e1 : L.toArray[j / K.s]! = L[j / K.s] := by simp [hk]
      rw [e1]
      have e2 : (K.enc L[j / K.s])[j % K.s]? = some ((K.enc L[j / K.s])[j % K.s]!) := by
        rw [List.getElem?_eq_getElem (by rw [hK.len]; exact hmod), List.getElem!_eq_getElem?_getD, List.getElem?_eq_getElem (by rw [hK.len]; exact hmod)]
        rfl
      have h4 := hr (j % K.s) _ e2
      rw [Nat.zero_add, Nat.div_add_mod' j K.s] at h4
      rw [Nat.zero_add]
      exact h4
    · unfold World.frozen?
      simp only [hh]
      simp
theorem lies_holds (hK : KdOK K) [Inhabited α] {W : World} {g : Nat} (hg : g < W.heap.size) {d : Array α} (h : HoldsK K.enc K.s W g 0 d) : Lies K W (some ⟨g, 0, none⟩) d.toList := by
  refine ⟨(fun h => by cases h), fun k hk => ⟨g, 0, rfl, hg, fun j u hu => ?_⟩⟩
  have hk' : k < d.size := by simpa using hk
  have hj : j < K.s := by
    have := (List.getElem?_eq_some_iff.1 hu).1
    rwa [hK.len] at this
  have hlt : k * K.s + j < d.size * K.s := by
    have : (k + 1) * K.s ≤ d.size * K.s := Nat.mul_le_mul_right _ (by omega)
    rw [Nat.add_mul, Nat.one_mul] at this
    omega
  have h1 := (h (k * K.s + j) (by simpa using hlt)).1
  rw [get_flatK _ _ _ _ hlt, Nat.mul_comm k K.s, Nat.mul_add_div hK.pos, Nat.div_eq_of_lt hj, Nat.add_zero, Nat.mul_add_mod, Nat.mod_eq_of_lt hj] at h1
  rw [Nat.zero_add, Nat.mul_comm k K.s]
  rw [Nat.zero_add] at h1
  rw [h1]
  have e1 : d[k]! = d.toList[k] := by simp [hk']
  have h2 := List.getElem?_eq_some_iff.1 hu
  obtain ⟨h3, h4⟩ := h2
  rw [e1]
  show some (id _) = some u
  rw [← h4, List.getElem!_eq_getElem?_getD, List.getElem?_eq_getElem h3]
  rfl
theorem below_sortK [Inhabited α] (enc : α → List Value) (k : Nat) (W : World) (g off m B : Nat) (d : Array α) (os : Array Obj) (hB : B ≤ g) (hBW : B ≤ W.heap.size) : Below B W (sortWorldK enc k W g off m d os) := by
  refine ⟨rfl, rfl, rfl, ?_, fun q hq => ?_⟩
  · unfold sortWorldK grow putRowK putRow mapBlock Sort.ahead
    simp
  · unfold sortWorldK grow putRowK putRow mapBlock Sort.ahead
    show (W.heap.modify g _ ++ os)[q]? = W.heap[q]?
    rw [Array.getElem?_append_left (by simp; omega), Array.getElem?_modify, if_neg (by omega)]
set_option maxHeartbeats 1000000 in
/-- SortFunc: what lies there, by its days -/
theorem sort_any {W : World} {B g c n : Nat} {L : List (Int × Int)} (hn : L.length = n) (hn1 : n < 4611686018427387904) (hB : B ≤ W.heap.size) (h : W.ownsRow B kT.e kT.s (.slice (some ⟨g, 0, none⟩) n c) n (kT.flat L)) :
    Calls Tryd.prog 44 #[.slice (some ⟨g, 0, none⟩) n c, .func (.func 45) #[] #[]] W fun e w' => e = .returned (.tuple #[]) ∧ ∃ A : List (Int × Int), A.Perm L ∧ A.Pairwise (fun a b => a.1 ≤ b.1) ∧ Lies kT w' (some ⟨g, 0, none⟩) A ∧ Below B W w' := by
  have eg : ∀ args w, (callFunc 45 args).run Tryd.prog w = .ok (.enter 45 args) w := enters_of Tryd.func45 (by kernel_rfl) rfl
  have hg := row_block h (g := g) rfl
  have hcon := AnyQ.slices_SortFunc Tryd.sortT 2 isAgg74 sizeOf74 kT.enc (fun _ => rfl) kT_ok.one (fun x y => cmpI x.1 y.1) swoD 45 #[] g 0 c L.toArray W eg (lays45 g 0 _ W) (holds_own kT_ok hn h) hg.2.1 (by simpa [hn] using hn1)
  change Calls Tryd.prog 44 _ _ _ at hcon
  rw [show L.toArray.size = n by simpa using hn] at hcon
  refine hcon.mono ?_
  rintro e w' ⟨rfl, d', m, os, hp, hs, rfl⟩
  have hd : d'.size = n := by rw [hp.1]; simpa using hn
  refine ⟨rfl, d'.toList, ?_, ?_, ?_, ?_⟩
  · have h3 := hp.2.2
    have e1 : d'.extract 0 n = d' := by rw [← hd]; simp
    have e2 : L.toArray.extract 0 n = L.toArray := by rw [← hn]; simp
    rw [e1, e2] at h3
    simpa using h3
  · rw [List.pairwise_iff_getElem]
    intro i j hi hj hij
    have := hs i j (Nat.zero_le _) hij (by rw [← hd]; simpa using hj)
    rw [ltD] at this
    have hi' : i < d'.size := by simpa using hi
    have hj' : j < d'.size := by simpa using hj
    have h5 := of_decide_eq_false this
    have e1 : d'[i]! = d'.toList[i] := by simp [hi']
    have e2 : d'[j]! = d'.toList[j] := by simp [hj']
    rw [e1, e2] at h5
    omega
  · refine lies_holds kT_ok (lt_sortWorldK _ _ _ _ _ _ _ _ hg.2.1) ?_
    exact holdsK_sortWorldK _ _ _ _ _ _ L.toArray d' os hg.2.1 (holds_own kT_ok hn h) (by rw [hd]; simpa using hn.symm)
  · exact below_sortK _ _ _ _ _ _ _ _ _ hg.1 hB
end Go.Proofs.YtenoaechonpjgaaDoor
