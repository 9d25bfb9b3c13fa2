/- chart: the sort of accounts: Accounts$1 (26), SortFunc (25). -/
import Derived.Test.YtgimeecklmmbjaaDoorAgR
import Derived.Test.YtgimeecklmmbjaaDoorSrt
namespace Go.Proofs.YtgimeecklmmbjaaDoor
open Go Go.Shelf Go.ChangeShapes Go.WideShapes Go.ChangeAt Go.RowKit Go.Maps Go.Sort
set_option linter.unusedVariables false
@[reducible] def acInh : Inhabited Ac := ⟨top0⟩
attribute [instance] acInh
/-- accounts as elements of a slice -/
def kA : Kd Ac := ⟨fun a => [.string (txN a.nm), .int .i64 a.ty, .int .i64 a.dy, .bool a.cl], 4, 29, 41, 40⟩
theorem kA_ok : KdOK kA := kd_ok (fun _ => rfl) (by decide) (fun x u hu => by simp [kA] at hu; rcases hu with rfl | rfl | rfl | rfl <;> rfl) Tryd.underlying29 (z := .agg #[.string ⟨#[]⟩, .int .i64 0, .int .i64 0, .bool false]) (by kernel_rfl) rfl (by decide)
set_option maxHeartbeats 1000000 in
theorem cl26 (x y : Ac) (W : World) : Calls Tryd.prog 26 #[.agg #[.string (txN x.nm), .int .i64 x.ty, .int .i64 x.dy, .bool x.cl], .agg #[.string (txN y.nm), .int .i64 y.ty, .int .i64 y.dy, .bool y.cl]] W fun e w' => e = .returned (.int .i64 (cmpS x.nm y.nm)) ∧ ∃ q os', w' = grow (W.drewN q) os' := by
  have hcon := fun W' => cmps_any (txN x.nm) (txN y.nm) W'
  rw [txN_list, txN_list] at hcon
  generalize cmpS x.nm y.nm = r at hcon ⊢
  go_enter Tryd.func26, Tryd.ntmps26
  go_wp2_with (go_at_call 27; refine (hcon _).mono ?_; rintro e w' ⟨rfl, rfl⟩)
  go_ret
  exact ⟨rfl, 0, _, by rw [alloc_eq_grow, alloc_eq_grow, grow_grow]; rfl⟩
theorem lays26 (blk off size : Nat) (w : World) : CmpLays Tryd.prog 26 #[] kA.enc 4 (fun x y => cmpS x.nm y.nm) blk off size w :=
  fun _ _ _ _ x y => cl26 x y _
theorem ltA (x y : Ac) : ltOf (fun x y : Ac => cmpS x.nm y.nm) x y = decide (x.nm < y.nm) := by
  unfold ltOf
  exact Bool.eq_iff_iff.2 (by simp only [decide_eq_true_eq, cmpS_neg])
theorem swoA : SWO (ltOf fun x y : Ac => cmpS x.nm y.nm) where
  irrefl x := by rw [ltA]; simp
  trans x y z h1 h2 := by rw [ltA] at *; simp only [decide_eq_true_eq] at *; exact slt_trans h1 h2
  ntrans x y z h1 h2 := by
    rw [ltA] at *
    simp only [decide_eq_false_iff_not] at *
    intro h
    by_cases hyz : y.nm < z.nm
    · exact h2 hyz
    · by_cases hzy : z.nm < y.nm
      · exact h1 (slt_trans h hzy)
      · rw [slt_tri hyz hzy] at h1
        exact h1 h
theorem isAgg41' (w : World) : (isAgg (Tryd.sortT_ren.t 24)).run Tryd.prog w = .ok true w := by kernel_rfl
theorem sizeOf41' (w : World) : (Go.sizeOf (Tryd.sortT_ren.t 24)).run Tryd.prog w = .ok 4 w := by kernel_rfl
section
variable {α : Type} {K : Kd α}
theorem holds_own (hK : KdOK K) [Inhabited α] {W : World} {B g c n : Nat} {L : List α} (hn : L.length = n) (h : W.ownsRow B K.e K.s (.slice (some ⟨g, 0, none⟩) n c) n (K.flat L)) : HoldsK K.enc K.s W g 0 L.toArray := by
  rcases h.2 with ⟨e, h2⟩ | ⟨g', cap, cur, e, hB, hh, hc, hm, hcs, ht⟩
  · cases e
  · cases e
    intro j hj
    have hj' : j < L.length * K.s := by simpa using hj
    have hL := own_lies hK hn h
    have hk : j / K.s < L.length := Nat.div_lt_of_lt_mul (by rw [Nat.mul_comm]; exact hj')
    have hmod : j % K.s < K.s := Nat.mod_lt _ hK.pos
    obtain ⟨b, off, e, hlt, hr⟩ := hL.2 (j / K.s) hk
    cases e
    refine ⟨?_, ?_⟩
    · rw [get_flatK _ _ _ _ (by simpa using hj')]
      have e1 : L.toArray[j / K.s]! = L[j / K.s] := by simp [hk]
      rw [e1]
      have e2 : (K.enc L[j / K.s])[j % K.s]? = some ((K.enc L[j / K.s])[j % K.s]!) := by
        rw [List.getElem?_eq_getElem (by rw [hK.len]; exact hmod), List.getElem!_eq_getElem?_getD, List.getElem?_eq_getElem (by rw [hK.len]; exact hmod)]
        rfl
      have h4 := hr (j % K.s) _ e2
      rw [Nat.zero_add, Nat.div_add_mod' j K.s] at h4
      rw [Nat.zero_add]
      exact h4
    · unfold World.frozen?
      simp only [hh]
      simp
theorem lies_holds (hK : KdOK K) [Inhabited α] {W : World} {g : Nat} (hg : g < W.heap.size) {d : Array α} (h : HoldsK K.enc K.s W g 0 d) : Lies K W (some ⟨g, 0, none⟩) d.toList := by
  refine ⟨(fun h => by cases h), fun k hk => ⟨g, 0, rfl, hg, fun j u hu => ?_⟩⟩
  have hk' : k < d.size := by simpa using hk
  have hj : j < K.s := by
    have := (List.getElem?_eq_some_iff.1 hu).1
    rwa [hK.len] at this
  have hlt : k * K.s + j < d.size * K.s := by
    have : (k + 1) * K.s ≤ d.size * K.s := Nat.mul_le_mul_right _ (by omega)
    rw [Nat.add_mul, Nat.one_mul] at this
    omega
  have h1 := (h (k * K.s + j) (by simpa using hlt)).1
  rw [get_flatK _ _ _ _ hlt, Nat.mul_comm k K.s, Nat.mul_add_div hK.pos, Nat.div_eq_of_lt hj, Nat.add_zero, Nat.mul_add_mod, Nat.mod_eq_of_lt hj] at h1
  rw [Nat.zero_add, Nat.mul_comm k K.s]
  rw [Nat.zero_add] at h1
  rw [h1]
  have e1 : d[k]! = d.toList[k] := by simp [hk']
  have h2 := List.getElem?_eq_some_iff.1 hu
  obtain ⟨h3, h4⟩ := h2
  rw [e1]
  show some (id _) = some u
  rw [← h4, List.getElem!_eq_getElem?_getD, List.getElem?_eq_getElem h3]
  rfl
theorem below_sortK [Inhabited α] (enc : α → List Value) (k : Nat) (W : World) (g off m B : Nat) (d : Array α) (os : Array Obj) (hB : B ≤ g) (hBW : B ≤ W.heap.size) : Below B W (sortWorldK enc k W g off m d os) := by
  refine ⟨rfl, rfl, rfl, ?_, fun q hq => ?_⟩
  · unfold sortWorldK grow putRowK putRow mapBlock Sort.ahead
    simp
  · unfold sortWorldK grow putRowK putRow mapBlock Sort.ahead
    show (W.heap.modify g _ ++ os)[q]? = W.heap[q]?
    rw [Array.getElem?_append_left (by simp; omega), Array.getElem?_modify, if_neg (by omega)]
end
set_option maxHeartbeats 1000000 in
/-- SortFunc: what lies there, by its names -/
theorem sort_any {W : World} {B g c n : Nat} {L : List Ac} (hn : L.length = n) (hn1 : n < 4611686018427387904) (hB : B ≤ W.heap.size) (h : W.ownsRow B kA.e kA.s (.slice (some ⟨g, 0, none⟩) n c) n (kA.flat L)) :
    Calls Tryd.prog 25 #[.slice (some ⟨g, 0, none⟩) n c, .func (.func 26) #[] #[]] W fun e w' => e = .returned (.tuple #[]) ∧ ∃ A : List Ac, A.Perm L ∧ A.Pairwise (fun a b => ¬ b.nm < a.nm) ∧ Lies kA w' (some ⟨g, 0, none⟩) A ∧ Below B W w' ∧ KeepsG gdT W w' := by
  have eg : ∀ args w, (callFunc 26 args).run Tryd.prog w = .ok (.enter 26 args) w := enters_of Tryd.func26 (by kernel_rfl) rfl
  have hg := row_block h (g := g) rfl
  have hcon := AnyQ.slices_SortFunc Tryd.sortT 4 isAgg41' sizeOf41' kA.enc (fun _ => rfl) kA_ok.one (fun x y => cmpS x.nm y.nm) swoA 26 #[] g 0 c L.toArray W eg (lays26 g 0 _ W) (holds_own kA_ok hn h) hg.2.1 (by simpa [hn] using hn1)
  change Calls Tryd.prog 25 _ _ _ at hcon
  rw [show L.toArray.size = n by simpa using hn] at hcon
  refine hcon.mono ?_
  rintro e w' ⟨rfl, d', m, os, hp, hs, rfl⟩
  have hd : d'.size = n := by rw [hp.1]; simpa using hn
  refine ⟨rfl, d'.toList, ?_, ?_, ?_, ?_, ?_⟩
  · have h3 := hp.2.2
    have e1 : d'.extract 0 n = d' := by rw [← hd]; simp
    have e2 : L.toArray.extract 0 n = L.toArray := by rw [← hn]; simp
    rw [e1, e2] at h3
    simpa using h3
  · rw [List.pairwise_iff_getElem]
    intro i j hi hj hij
    have := hs i j (Nat.zero_le _) hij (by rw [← hd]; simpa using hj)
    rw [ltA] at this
    have hi' : i < d'.size := by simpa using hi
    have hj' : j < d'.size := by simpa using hj
    have h5 := of_decide_eq_false this
    have e1 : d'[i]! = d'.toList[i] := by simp [hi']
    have e2 : d'[j]! = d'.toList[j] := by simp [hj']
    rw [e1, e2] at h5
    exact h5
  · refine lies_holds kA_ok (lt_sortWorldK _ _ _ _ _ _ _ _ hg.2.1) ?_
    exact holdsK_sortWorldK _ _ _ _ _ _ L.toArray d' os hg.2.1 (holds_own kA_ok hn h) (by rw [hd]; simpa using hn.symm)
  · exact below_sortK _ _ _ _ _ _ _ _ _ hg.1 hB
  · have h6 := below_sortK kA.enc 4 W g 0 m g d' os (Nat.le_refl _) (Nat.le_of_lt hg.2.1)
    refine ⟨h6.size, fun k o hk ho => ?_⟩
    by_cases e : k = g
    · subst e
      exfalso
      rcases h.2 with ⟨e, _⟩ | ⟨g', cap, cur, e, _, hh, _⟩
      · cases e
      · cases e
        rw [hh] at hk
        injection hk with hk
        subst hk
        revert ho
        simp [gdT, kA]
    · have hkl := (Array.getElem?_eq_some_iff.1 hk).1
      rw [← hk]
      unfold sortWorldK grow putRowK putRow mapBlock Sort.ahead
      show (W.heap.modify g _ ++ os)[k]? = W.heap[k]?
      rw [Array.getElem?_append_left (by simp; omega), Array.getElem?_modify, if_neg (fun e2 => e e2.symm)]
set_option maxRecDepth 100000 in
set_option maxHeartbeats 4000000 in
theorem ins_nil (p : Option Addr) (cap : Nat) (fv : Value) (w : World) : Calls Tryd.prog 54 #[.slice p 0 cap, .int .i64 0, .int .i64 0, fv] w fun e w' => e = .returned (.tuple #[]) ∧ w' = w := by
  go_enter Tryd.func54, Tryd.ntmps54
  go_wp2_with fail
  go_loopw [8] (fun v8 wr => v8 = .int .i64 1 ∧ Hid (wr = w)) (fun _ _ => 0)
  case atStart => exact ⟨rfl, rfl⟩
  case round =>
    obtain ⟨rfl, hw⟩ := hrel
    have hw := unhide hw
    subst hw
    go_wp2_with fail
    go_end0
    exact ⟨rfl, rfl⟩
set_option maxRecDepth 100000 in
set_option maxHeartbeats 4000000 in
theorem pdq_nil (p : Option Addr) (cap : Nat) (l : Int) (fv : Value) (w : World) : Calls Tryd.prog 40 #[.slice p 0 cap, .int .i64 0, .int .i64 0, .int .i64 l, fv] w fun e w' => e = .returned (.tuple #[]) ∧ w' = w := by
  have dI := hide (ins_nil p cap fv w)
  go_enter Tryd.func40, Tryd.ntmps40
  go_wp2_with fail
  go_loopw [1, 2] (fun v1 v2 wr => v1 = .int .i64 0 ∧ v2 = .int .i64 0 ∧ Hid (wr = w)) (fun _ _ _ => 0)
  case atStart => exact ⟨rfl, rfl, rfl⟩
  case round =>
    obtain ⟨rfl, rfl, hw⟩ := hrel
    have hw := unhide hw
    subst hw
    go_wp2_with fail
    refine (unhide dI).mono ?_
    rintro e w1 ⟨rfl, hw⟩
    rw [hw]
    clear hw w1
    go_wp2_with fail
    refine bodyPost_ret (v := .tuple #[]) (by simp [results, Tryd.results40]) rfl ⟨rfl, rfl⟩
set_option maxHeartbeats 4000000 in
theorem sort_nil (p : Option Addr) (cap : Nat) (fv : Value) (w : World) : Calls Tryd.prog 25 #[.slice p 0 cap, fv] w fun e w' => e = .returned (.tuple #[]) ∧ w' = w := by
  have hl := hide (Any.bits_Len (SlLaysF0.n15.bits (P := Tryd.prog) (ρ := Tryd.sortT_ren) { Tryd.sortT with }) 0 w (by omega) (by omega))
  change Hid (Calls Tryd.prog 41 #[.int .u64 0] w _) at hl
  have dP := hide (fun l => pdq_nil p cap l fv w)
  go_enter Tryd.func25, Tryd.ntmps25
  go_wp2_with fail
  refine (unhide hl).mono ?_
  rintro e w1 ⟨rfl, hw⟩
  rw [hw]
  clear hw w1 hl
  go_wp2_with fail
  refine (unhide dP _).mono ?_
  rintro e w1 ⟨rfl, hw⟩
  rw [hw]
  clear hw w1 dP
  go_wp2_with fail
  go_end0
  exact ⟨rfl, rfl⟩
end Go.Proofs.YtgimeecklmmbjaaDoor
