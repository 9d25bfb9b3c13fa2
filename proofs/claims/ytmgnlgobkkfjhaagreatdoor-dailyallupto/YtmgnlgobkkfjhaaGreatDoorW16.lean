import Derived.Test.YtmgnlgobkkfjhaaGreatDoorW03
import Derived.Test.YtmgnlgobkkfjhaaGreatDoorW15
import Derived.Deep.MidRow
import Derived.Deep.DeepCutAuto
/- daily: lists of what is told: cmp.Compare (78), behind$1 (45), SortFunc (38), Clone (43), cutDay (31). -/
namespace Go.Proofs.YtmgnlgobkkfjhaaGreatDoor
open Go Go.Shelf Go.ChangeShapes Go.WideShapes Go.ChangeAt Go.RowKit Go.Maps Go.Sort
set_option linter.unusedVariables false
theorem nan_any (x : Int) (w : World) : Calls Tryz.prog 253 #[.int .i64 x] w fun e w' => e = .returned (.bool false) ∧ w' = w := by
  have hx : (x != x) = false := by simp
  go_enter Tryz.func253, Tryz.ntmps253
  go_wp2_with fail
  go_ret
  exact ⟨rfl, rfl⟩
def cmpI (x y : Int) : Int := if x < y then -1 else if x > y then 1 else 0
theorem cmp_any (x y : Int) (w : World) : Calls Tryz.prog 216 #[.int .i64 x, .int .i64 y] w fun e w' => e = .returned (.int .i64 (cmpI x y)) ∧ w' = w := by
  have d1 := hide (nan_any x); have d2 := hide (nan_any y)
  by_cases h1 : x < y
  · rw [cmpI, if_pos h1]
    go_enter Tryz.func216, Tryz.ntmps216
    go_wp2_with fail
    refine (unhide d1 _).mono ?_
    rintro e w' ⟨rfl, rfl⟩
    go_wp2_with fail
    refine (unhide d2 _).mono ?_
    rintro e w' ⟨rfl, rfl⟩
    go_wp2_with fail
    go_ret
    exact ⟨rfl, rfl⟩
  · by_cases h2 : x > y
    · rw [cmpI, if_neg h1, if_pos h2]
      go_enter Tryz.func216, Tryz.ntmps216
      go_wp2_with fail
      refine (unhide d1 _).mono ?_
      rintro e w' ⟨rfl, rfl⟩
      go_wp2_with fail
      refine (unhide d2 _).mono ?_
      rintro e w' ⟨rfl, rfl⟩
      go_wp2_with fail
      go_ret
      exact ⟨rfl, rfl⟩
    · rw [cmpI, if_neg h1, if_neg h2]
      go_enter Tryz.func216, Tryz.ntmps216
      go_wp2_with fail
      refine (unhide d1 _).mono ?_
      rintro e w' ⟨rfl, rfl⟩
      go_wp2_with fail
      refine (unhide d2 _).mono ?_
      rintro e w' ⟨rfl, rfl⟩
      go_wp2_with fail
      go_ret
      exact ⟨rfl, rfl⟩
set_option maxHeartbeats 1000000 in
theorem cl45 (x y : Int × Int) (W : World) : Calls Tryz.prog 215 #[.agg #[.int .i64 x.1, .int .i64 x.2], .agg #[.int .i64 y.1, .int .i64 y.2]] W fun e w' => e = .returned (.int .i64 (cmpI x.1 y.1)) ∧ ∃ q os', w' = grow (W.drewN q) os' := by
  have hcon := fun W' => cmp_any x.1 y.1 W'
  generalize cmpI x.1 y.1 = r at hcon ⊢
  go_enter Tryz.func215, Tryz.ntmps215
  go_wp2_with (go_at_call 216; refine (hcon _).mono ?_; rintro e w' ⟨rfl, rfl⟩)
  go_ret
  exact ⟨rfl, 0, _, by rw [alloc_eq_grow, alloc_eq_grow, grow_grow]; rfl⟩
theorem lays45 (blk off size : Nat) (w : World) : CmpLays Tryz.prog 215 #[] kT.enc 2 (fun x y => cmpI x.1 y.1) blk off size w :=
  fun _ _ _ _ x y => cl45 x y _
theorem ltD (x y : Int × Int) : ltOf (fun x y : Int × Int => cmpI x.1 y.1) x y = decide (x.1 < y.1) := by
  unfold ltOf cmpI
  by_cases h1 : x.1 < y.1
  · simp [h1]
  · by_cases h2 : y.1 < x.1 <;> simp [h1, h2]
theorem swoD : SWO (ltOf fun x y : Int × Int => cmpI x.1 y.1) where
  irrefl x := by rw [ltD]; simp
  trans x y z h1 h2 := by rw [ltD] at *; simp at *; omega
  ntrans x y z h1 h2 := by rw [ltD] at *; simp at *; omega
variable {α : Type} {K : Kd α}
theorem isAgg74 (w : World) : (isAgg (Tryz.sortT_ren.t 24)).run Tryz.prog w = .ok true w := by kernel_rfl
theorem sizeOf74 (w : World) : (Go.sizeOf (Tryz.sortT_ren.t 24)).run Tryz.prog w = .ok 2 w := by kernel_rfl
theorem holds_own (hK : KdOK K) [Inhabited α] {W : World} {B g c n : Nat} {L : List α} (hn : L.length = n) (h : W.ownsRow B K.e K.s (.slice (some ⟨g, 0, none⟩) n c) n (K.flat L)) : HoldsK K.enc K.s W g 0 L.toArray := by
  rcases h.2 with ⟨e, h2⟩ | ⟨g', cap, cur, e, hB, hh, hc, hm, hcs, ht⟩
  · cases e
  · cases e
    intro j hj
    have hj' : j < L.length * K.s := by simpa using hj
    have hL := own_lies hK hn h
    have hk : j / K.s < L.length := Nat.div_lt_of_lt_mul (by rw [Nat.mul_comm]; exact hj')
    have hmod : j % K.s < K.s := Nat.mod_lt _ hK.pos
    obtain ⟨b, off, e, hlt, hr⟩ := hL.2 (j / K.s) hk
    cases e
    refine ⟨?_, ?_⟩
    · rw [get_flatK _ _ _ _ (by simpa using hj')]
      have e1 : L.toArray[j / K.s]! = L[j / K.s] := by simp [hk]
      rw [e1]
      have e2 : (K.enc L[j / K.s])[j % K.s]? = some ((K.enc L[j / K.s])[j % K.s]!) := by
        rw [List.getElem?_eq_getElem (by rw [hK.len]; exact hmod), List.getElem!_eq_getElem?_getD, List.getElem?_eq_getElem (by rw [hK.len]; exact hmod)]
        rfl
      have h4 := hr (j % K.s) _ e2
      rw [Nat.zero_add, Nat.div_add_mod' j K.s] at h4
      rw [Nat.zero_add]
      exact h4
    · unfold World.frozen?
      simp only [hh]
      simp
theorem lies_holds (hK : KdOK K) [Inhabited α] {W : World} {g : Nat} (hg : g < W.heap.size) {d : Array α} (h : HoldsK K.enc K.s W g 0 d) : Lies K W (some ⟨g, 0, none⟩) d.toList := by
  refine ⟨(fun h => by cases h), fun k hk => ⟨g, 0, rfl, hg, fun j u hu => ?_⟩⟩
  have hk' : k < d.size := by simpa using hk
  have hj : j < K.s := by
    have := (List.getElem?_eq_some_iff.1 hu).1
    rwa [hK.len] at this
  have hlt : k * K.s + j < d.size * K.s := by
    have : (k + 1) * K.s ≤ d.size * K.s := Nat.mul_le_mul_right _ (by omega)
    rw [Nat.add_mul, Nat.one_mul] at this
    omega
  have h1 := (h (k * K.s + j) (by simpa using hlt)).1
  rw [get_flatK _ _ _ _ hlt, Nat.mul_comm k K.s, Nat.mul_add_div hK.pos, Nat.div_eq_of_lt hj, Nat.add_zero, Nat.mul_add_mod, Nat.mod_eq_of_lt hj] at h1
  rw [Nat.zero_add, Nat.mul_comm k K.s]
  rw [Nat.zero_add] at h1
  rw [h1]
  have e1 : d[k]! = d.toList[k] := by simp [hk']
  have h2 := List.getElem?_eq_some_iff.1 hu
  obtain ⟨h3, h4⟩ := h2
  rw [e1]
  show some (id _) = some u
  rw [← h4, List.getElem!_eq_getElem?_getD, List.getElem?_eq_getElem h3]
  rfl
theorem below_sortK [Inhabited α] (enc : α → List Value) (k : Nat) (W : World) (g off m B : Nat) (d : Array α) (os : Array Obj) (hB : B ≤ g) (hBW : B ≤ W.heap.size) : Below B W (sortWorldK enc k W g off m d os) := by
  refine ⟨rfl, rfl, rfl, ?_, fun q hq => ?_⟩
  · unfold sortWorldK grow putRowK putRow mapBlock Sort.ahead
    simp
  · unfold sortWorldK grow putRowK putRow mapBlock Sort.ahead
    show (W.heap.modify g _ ++ os)[q]? = W.heap[q]?
    rw [Array.getElem?_append_left (by simp; omega), Array.getElem?_modify, if_neg (by omega)]
set_option maxHeartbeats 1000000 in
/-- SortFunc: what lies there, by its days -/
theorem sort_any {W : World} {B g c n : Nat} {L : List (Int × Int)} (hn : L.length = n) (hn1 : n < 4611686018427387904) (hB : B ≤ W.heap.size) (h : W.ownsRow B kT.e kT.s (.slice (some ⟨g, 0, none⟩) n c) n (kT.flat L)) :
    Calls Tryz.prog 214 #[.slice (some ⟨g, 0, none⟩) n c, .func (.func 215) #[] #[]] W fun e w' => e = .returned (.tuple #[]) ∧ ∃ A : List (Int × Int), A.Perm L ∧ A.Pairwise (fun a b => a.1 ≤ b.1) ∧ Lies kT w' (some ⟨g, 0, none⟩) A ∧ Below B W w' := by
  have eg : ∀ args w, (callFunc 215 args).run Tryz.prog w = .ok (.enter 215 args) w := enters_of Tryz.func215 (by kernel_rfl) rfl
  have hg := row_block h (g := g) rfl
  have hcon := AnyQ.slices_SortFunc Tryz.sortT 2 isAgg74 sizeOf74 kT.enc (fun _ => rfl) kT_ok.one (fun x y => cmpI x.1 y.1) swoD 215 #[] g 0 c L.toArray W eg (lays45 g 0 _ W) (holds_own kT_ok hn h) hg.2.1 (by simpa [hn] using hn1)
  change Calls Tryz.prog 214 _ _ _ at hcon
  rw [show L.toArray.size = n by simpa using hn] at hcon
  refine hcon.mono ?_
  rintro e w' ⟨rfl, d', m, os, hp, hs, rfl⟩
  have hd : d'.size = n := by rw [hp.1]; simpa using hn
  refine ⟨rfl, d'.toList, ?_, ?_, ?_, ?_⟩
  · have h3 := hp.2.2
    have e1 : d'.extract 0 n = d' := by rw [← hd]; simp
    have e2 : L.toArray.extract 0 n = L.toArray := by rw [← hn]; simp
    rw [e1, e2] at h3
    simpa using h3
  · rw [List.pairwise_iff_getElem]
    intro i j hi hj hij
    have := hs i j (Nat.zero_le _) hij (by rw [← hd]; simpa using hj)
    rw [ltD] at this
    have hi' : i < d'.size := by simpa using hi
    have hj' : j < d'.size := by simpa using hj
    have h5 := of_decide_eq_false this
    have e1 : d'[i]! = d'.toList[i] := by simp [hi']
    have e2 : d'[j]! = d'.toList[j] := by simp [hj']
    rw [e1, e2] at h5
    omega
  · refine lies_holds kT_ok (lt_sortWorldK _ _ _ _ _ _ _ _ hg.2.1) ?_
    exact holdsK_sortWorldK _ _ _ _ _ _ L.toArray d' os hg.2.1 (holds_own kT_ok hn h) (by rw [hd]; simpa using hn.symm)
  · exact below_sortK _ _ _ _ _ _ _ _ _ hg.1 hB
end Go.Proofs.YtmgnlgobkkfjhaaGreatDoor
/- daily: Clone (43), cutDay (31). -/
namespace Go.Proofs.YtmgnlgobkkfjhaaGreatDoor
open Go Go.Shelf Go.ChangeShapes Go.WideShapes Go.ChangeAt Go.RowKit Go.Maps Go.Sort
set_option linter.unusedVariables false
variable {α : Type} {K : Kd α}
theorem own_none0 (W : World) (e : TypeId) (s : Nat) (o : Obj) (ho : o = .cells #[] e (0, 0)) : (W.alloc o).ownsRow W.heap.size e s (.slice (some ⟨W.heap.size, 0, none⟩) 0 0) 0 [] := by
  subst ho
  refine ⟨by simp, .inr ⟨W.heap.size, 0, #[], rfl, Nat.le_refl _, ?_, Nat.le_refl _, by unfold maxLen; omega, by simp, by simp⟩⟩
  exact heap_alloc_new _ _
theorem run_eql_slice_nil53 (ad : Addr) (n c : Nat) (w : World) : (binOp .eql 94 (.slice (some ad) n c) (.slice none 0 0)).run Tryz.prog w = .ok (.bool false) w := by
  simp only [binOp]
  simp [run_equal_slice_nil w 94 181 (some ad) n c Tryz.underlying94]
set_option maxRecDepth 100000 in
theorem clone_any {W : World} {ad : Addr} {c n : Nat} {M : List (Int × Int)} (hn : M.length = n) (hl : n ≤ 1099511627776) (hM : Lies kT W (some ad) M) :
    Calls Tryz.prog 213 #[.slice (some ad) n c] W fun e w' => ∃ g c', e = .returned (.slice (some ⟨g, 0, none⟩) n c') ∧ w'.ownsRow W.heap.size kT.e kT.s (.slice (some ⟨g, 0, none⟩) n c') n (kT.flat M) ∧ Below W.heap.size W w' := by
  obtain ⟨O, hO⟩ : ∃ O, O = Obj.cells #[] 181 (0, 0) := ⟨_, rfl⟩
  have h0 := own_none0 W 181 2 O hO
  have hb0 : Below W.heap.size W (W.alloc O) := bal (Below.refl _ _) O
  obtain ⟨p', c', w', hr, ho, hb, _, hat⟩ := run_app kT_ok (L := []) (M := M) 94 h0 (by simp) (some ad) c (fun h => by cases h) (hM.below hb0) (by omega)
  rw [hn, Nat.zero_add] at hr ho hat
  obtain ⟨g, hp'⟩ : ∃ g, p' = some ⟨g, 0, none⟩ := by
    rcases hat with h | h
    · obtain ⟨p2, c2, e, _, h3⟩ := row_slice ho
      cases e
      cases p' with
      | none => cases h
      | some a =>
        obtain ⟨h4, h5, _⟩ := h3 a rfl
        obtain ⟨b, o, s⟩ := a
        simp only at h4 h5
        subst h4 h5
        exact ⟨b, rfl⟩
    · obtain ⟨p2, c2, e, _, h3⟩ := row_slice ho
      cases e
      cases p' with
      | none => cases h
      | some a =>
        obtain ⟨h4, h5, _⟩ := h3 a rfl
        obtain ⟨b, o, s⟩ := a
        simp only at h4 h5
        subst h4 h5
        exact ⟨b, rfl⟩
  subst hp'
  have HR := hide hr; have HF := hide (And.intro ho (hb0.trans hb))
  clear hr ho hb hat h0 hb0 hM
  subst hO
  have hnil : (binOp .eql 94 (.slice (some ad) n c) (.slice none 0 0)).run Tryz.prog W = .ok (.bool false) W := run_eql_slice_nil53 ad n c W
  go_enter Tryz.func213, Tryz.ntmps213
  go_wp2_with (at_builtin; refine wpList_append_run rfl _ _ 94 rfl _ _ _ _ rfl rfl (unhide HR) ?_)
  go_ret
  exact ⟨g, c', rfl, by simpa using (unhide HF).1, (unhide HF).2⟩
/-- what is left of a list behind its first element -/
theorem Lies.tail {W : World} {b off c n : Nat} {x : α} {L : List α} (h : Lies K W (some ⟨b, off, none⟩) (x :: L)) (hn : L.length + 1 = n) (hc : n ≤ c) : Lies K W (if c = 1 then some ⟨b, off, none⟩ else some ⟨b, off + 1 * K.s, none⟩) L := by
  by_cases h1 : c = 1
  · rw [if_pos h1]
    have : L = [] := List.eq_nil_of_length_eq_zero (by omega)
    subst this
    exact Lies.nil _ _
  · rw [if_neg h1]
    have := h.part 1 L.length
    simpa using this
set_option maxRecDepth 100000 in
set_option maxHeartbeats 4000000 in
theorem cut_any {W : World} {b off c n : Nat} {A : List (Int × Int)} (hn : A.length = n) (hn1 : 0 < n) (hnc : n ≤ c) (hl : n ≤ 1099511627776) (hA : Lies kT W (some ⟨b, off, none⟩) A) (d : Int) (hd : ∀ x, A.head? = some x → x.1 = d) :
    Calls Tryz.prog 157 #[.slice (some ⟨b, off, none⟩) n c] W fun e w' => ∃ k p m c2 ps cs, e = .returned (.tuple #[.slice ps k cs, .slice p m c2]) ∧ 1 ≤ k ∧ k + m = n ∧ m ≤ c2 ∧ (∀ x ∈ A.take k, x.1 = d) ∧ (∀ x, (A.drop k).head? = some x → x.1 ≠ d) ∧
      w'.ownsRow W.heap.size 2 1 (.slice ps k cs) k (kI.flat ((A.take k).map (·.2))) ∧ (∀ W0, Lies kT W0 (some ⟨b, off, none⟩) A → Lies kT W0 p (A.drop k)) ∧ Below W.heap.size W w' := by
  obtain ⟨x0, A', rfl⟩ : ∃ x A', A = x :: A' := by
    cases A with
    | nil => simp at hn; omega
    | cons x A' => exact ⟨x, A', rfl⟩
  have hx0 : x0.1 = d := hd x0 rfl
  obtain ⟨b0, off0, e0, _, hr0⟩ := hA.2 0 (by simp)
  cases e0
  have hc0 : W.cell? ⟨b, off, none⟩ = some (.int .i64 d) := by
    have := hr0 0 (.int .i64 x0.1) rfl
    rw [hx0] at this
    simpa using this
  have HA := hide hA; have HN := hide hn
  clear hd hr0 hA hn
  go_enter Tryz.func157, Tryz.ntmps157
  go_wp2_with fail
  go_loopw [0, 2] (fun v0 v2 wr => ∃ (k m c2 cs : Nat) (p ps : Option Addr), v0 = .slice p m c2 ∧ v2 = .slice ps k cs ∧ k + m = n ∧ m ≤ c2 ∧ Hid ((p = none → m = 0) ∧ (∀ x ∈ (x0 :: A').take k, x.1 = d) ∧ wr.ownsRow W.heap.size 2 1 (.slice ps k cs) k (kI.flat (((x0 :: A').take k).map (·.2))) ∧ (∀ W0, Lies kT W0 (some ⟨b, off, none⟩) (x0 :: A') → Lies kT W0 p ((x0 :: A').drop k)) ∧ Below W.heap.size W wr)) (fun v0 _ _ => match v0 with | .slice _ m _ => m | _ => 0)
  case atStart => exact ⟨0, n, c, 0, _, none, rfl, rfl, by omega, hnc, (fun h => by cases h), (fun x h => by simp at h), World.ownsRow_nil _ _ _ _, (fun W0 h => h), Below.refl _ _⟩
  case round =>
    obtain ⟨k, m, c2, cs, p, ps, rfl, rfl, hkm, hmc, hrel⟩ := hrel
    obtain ⟨hpn, hall, hown, htr, hbel⟩ := unhide hrel
    have hlies := htr W (unhide HA)
    have hlen : ((x0 :: A').drop k).length = m := by
      have := unhide HN
      rw [List.length_drop]
      omega
    have hfin : Hid ((∀ x, ((x0 :: A').drop k).head? = some x → x.1 ≠ d) → 1 ≤ k → ∃ k' p' m' c2' ps' cs', Ending.returned (.tuple #[.slice ps k cs, .slice p m c2]) = .returned (.tuple #[.slice ps' k' cs', .slice p' m' c2']) ∧ 1 ≤ k' ∧ k' + m' = n ∧ m' ≤ c2' ∧ (∀ x ∈ (x0 :: A').take k', x.1 = d) ∧ (∀ x, ((x0 :: A').drop k').head? = some x → x.1 ≠ d) ∧
      wr.ownsRow W.heap.size 2 1 (.slice ps' k' cs') k' (kI.flat (((x0 :: A').take k').map (·.2))) ∧ (∀ W0, Lies kT W0 (some ⟨b, off, none⟩) (x0 :: A') → Lies kT W0 p' ((x0 :: A').drop k')) ∧ Below W.heap.size W wr) := fun h h1 => ⟨k, p, m, c2, ps, cs, rfl, h1, hkm, hmc, hall, h, hown, htr, hbel⟩
    by_cases hm : 0 < m
    · obtain ⟨x, L, hxL⟩ : ∃ x L, (x0 :: A').drop k = x :: L := by
        cases hq : (x0 :: A').drop k with
        | nil => rw [hq] at hlen; simp at hlen; omega
        | cons x L => exact ⟨x, L, rfl⟩
      rw [hxL] at hlies hlen
      obtain ⟨b2, off2, hp, hlt2, hr2⟩ := hlies.2 0 (by simp)
      subst hp
      have q0 : wr.cell? ⟨b2, off2, none⟩ = some (.int .i64 x.1) := (hbel.cell (p := ⟨b2, off2, none⟩) hlt2).trans (by simpa using hr2 0 (.int .i64 x.1) rfl)
      have q1 : wr.cell? ⟨b2, off2 + 1, none⟩ = some (.int .i64 x.2) := (hbel.cell (p := ⟨b2, off2 + 1, none⟩) hlt2).trans (by simpa using hr2 1 (.int .i64 x.2) rfl)
      obtain ⟨X, hX⟩ : ∃ X, X = x.1 := ⟨_, rfl⟩
      obtain ⟨Y, hY⟩ : ∃ Y, Y = x.2 := ⟨_, rfl⟩
      rw [← hX] at q0
      rw [← hY] at q1
      by_cases hxd : X = d
      · subst hxd
        have hkA : k < (x0 :: A').length := by have := unhide HN; omega
        have hget : (x0 :: A')[k] = x := by
          have h2 := List.drop_eq_getElem_cons hkA
          rw [hxL] at h2
          exact (List.cons.inj h2).1.symm
        have hL : (x0 :: A').drop (k + 1) = L := by
          have h2 := List.drop_eq_getElem_cons hkA
          rw [hxL] at h2
          exact (List.cons.inj h2).2.symm
        have htk : (x0 :: A').take (k + 1) = (x0 :: A').take k ++ [x] := by
          rw [List.take_succ_eq_append_getElem hkA, hget]
        have hbA : Below W.heap.size W (wr.alloc (.cells #[.int .i64 Y] 2)) := hbel.alloc hbel.size _
        obtain ⟨p', c', w', hr, ho, hb, _, _⟩ := run_app kI_ok (L := ((x0 :: A').take k).map (·.2)) (M := [Y]) 129 (hown.alloc (.cells #[.int .i64 Y] 2)) hbA.size (some ⟨wr.heap.size, 0, none⟩) 1 (fun h => by cases h) (one_lies wr Y 2 #[.int .i64 Y] rfl) (by simp; omega)
        rw [List.length_singleton] at hr ho
        have htl : ∀ W0, Lies kT W0 (some ⟨b, off, none⟩) (x0 :: A') → Lies kT W0 (if c2 = 1 then some ⟨b2, off2, none⟩ else some ⟨b2, off2 + 2, none⟩) L := fun W0 h0 => by
          have h1 := htr W0 h0
          rw [hxL] at h1
          exact h1.tail (c := c2) (n := m) (by simpa using hlen) hmc
        have hb' : Below W.heap.size W w' := hbA.trans hb
        have HFIN : Hid ((∀ y ∈ (x0 :: A').take (k + 1), y.1 = X) ∧ w'.ownsRow W.heap.size 2 1 (.slice p' (k + 1) c') (k + 1) (kI.flat (((x0 :: A').take (k + 1)).map (·.2))) ∧ (∀ W0, Lies kT W0 (some ⟨b, off, none⟩) (x0 :: A') → Lies kT W0 (if c2 = 1 then some ⟨b2, off2, none⟩ else some ⟨b2, off2 + 2, none⟩) ((x0 :: A').drop (k + 1))) ∧ Below W.heap.size W w') := by
          refine ⟨fun y hy => ?_, ?_, by rw [hL]; exact htl, hb'⟩
          · rw [htk] at hy
            rcases List.mem_append.1 hy with hy | hy
            · exact hall y hy
            · rw [List.mem_singleton] at hy
              subst hy
              exact hX.symm
          · rw [htk, List.map_append]
            show w'.ownsRow W.heap.size 2 1 _ (k + 1) (kI.flat (((x0 :: A').take k).map (·.2) ++ [x.2]))
            rw [← hY]
            exact ho
        have HR := hide hr
        clear hr ho hb hb' hbA htl htr hlies hown hall hbel hr2 hfin hrel hpn hX hY hget hL htk hxL
        go_wp2_with (at_builtin; refine wpList_append_run rfl _ _ 129 rfl _ _ _ _ rfl rfl (unhide HR) ?_)
        refine ⟨⟨k + 1, m - 1, c2 - 1, c', _, _, rfl, rfl, by omega, by omega, ?_⟩, by simp; omega⟩
        obtain ⟨f1, f2, f3, f4⟩ := unhide HFIN
        exact ⟨fun h => by by_cases hc : c2 = 1 <;> simp [hc] at h, f1, f2, f3, f4⟩
      · have hk1 : 1 ≤ k := by
          by_cases h : k = 0
          · subst h
            exfalso
            apply hxd
            rw [List.drop_zero] at hxL
            rw [hX, ← (List.cons.inj hxL).1, hx0]
          · omega
        have hex := unhide hfin (fun y hy => by rw [hxL] at hy; rw [← Option.some.inj hy, ← hX]; exact hxd) hk1
        have HEX := hide hex
        clear hex hfin htr hlies hown hall hbel hr2 hrel hpn hX hY hxL
        go_wp2_with fail
        go_ret2
        exact unhide HEX
    · have hk1 : 1 ≤ k := by omega
      have hex := unhide hfin (fun y hy => by
        have : (x0 :: A').drop k = [] := List.eq_nil_of_length_eq_zero (by omega)
        rw [this] at hy
        cases hy) hk1
      have HEX := hide hex
      clear hex hfin htr hlies hown hall hbel hrel hpn hlen
      go_wp2_with fail
      go_ret2
      exact unhide HEX
end Go.Proofs.YtmgnlgobkkfjhaaGreatDoor
/- daily: behind (22). -/
namespace Go.Proofs.YtmgnlgobkkfjhaaGreatDoor
open Go Go.Shelf Go.ChangeShapes Go.WideShapes Go.ChangeAt Go.RowKit Go.Maps Go.Sort
set_option linter.unusedVariables false
def ld74 (x : Value) : Sem Value := Instr.loadAt 181 x
theorem ld74_is (x : Value) : Instr.loadAt 181 x = ld74 x := rfl
theorem size74 : (Tryz.prog.info? 181).map (·.size) = some 2 := by kernel_rfl
theorem run_ld74 {w : World} {b o : Nat} {x y : Int} (h : w.rangeAt b o [.int .i64 x, .int .i64 y]) : (ld74 (.pointer (some ⟨b, o, none⟩))).run Tryz.prog w = .ok (.agg #[.int .i64 x, .int .i64 y]) w :=
  run_loadAt_mid (P := Tryz.prog) w b o 181 [.int .i64 x, .int .i64 y] _ h Tryz.underlying181 rfl size74
def ld82 (x : Value) : Sem Value := Instr.loadAt 187 x
theorem ld82_is (x : Value) : Instr.loadAt 187 x = ld82 x := rfl
theorem size82 : (Tryz.prog.info? 187).map (·.size) = some 3 := by kernel_rfl
theorem run_ld82 {w : World} {b o : Nat} {x y z : Int} (h : w.rangeAt b o [.int .i64 x, .int .i64 y, .int .i64 z]) : (ld82 (.pointer (some ⟨b, o, none⟩))).run Tryz.prog w = .ok (.agg #[.int .i64 x, .int .i64 y, .int .i64 z]) w :=
  run_loadAt_mid (P := Tryz.prog) w b o 187 [.int .i64 x, .int .i64 y, .int .i64 z] _ h Tryz.underlying187 rfl size82
attribute [local go_sem ↓] ld74_is ld82_is
theorem some_row {W : World} {B e s n c : Nat} {p : Option Addr} {xs : List Value} (h : W.ownsRow B e s (.slice p n c) n xs) (hn : 0 < n) : ∃ g, p = some ⟨g, 0, none⟩ ∧ n ≤ c ∧ B ≤ g := by
  rcases h.2 with ⟨e, h2⟩ | ⟨g, cap, cur, e, hB, hh, hc, h3⟩
  · omega
  · cases e
    exact ⟨g, rfl, hc, hB⟩
set_option maxRecDepth 100000 in
set_option maxHeartbeats 8000000 in
theorem behind_any {W : World} {p : Option Addr} {c : Nat} {S : List Mk} (hS : Lies kM W p S) (hu : S.Pairwise fun a b => a.1 < b.1) (hpc : p = none → c = 0) (hSc : S.length ≤ c) (hSl : S.length ≤ 274877906944) {ad : Addr} {cM nM : Nat} {M : List (Int × Int)} (hnM : M.length = nM) (hM1 : 0 < nM) (hMl : nM ≤ 274877906944) (hM : Lies kT W (some ad) M) :
    Calls Tryz.prog 156 #[.slice p S.length c, .slice (some ad) nM cM] W fun e w' => ∃ (st g c' n : Nat) (A : List (Int × Int)), e = .returned (.tuple #[.int .i64 st, .slice (some ⟨g, 0, none⟩) n c']) ∧ st ≤ S.length ∧ A.length = n ∧ n ≤ c' ∧ A.Perm (M ++ tld (S.drop st)) ∧ A.Pairwise (fun a b => a.1 ≤ b.1) ∧ (∀ m ∈ S.take st, ∀ x ∈ M, m.1 < x.1) ∧ Lies kT w' (some ⟨g, 0, none⟩) A ∧ Below W.heap.size W w' := by
  have HS := hide hS; have HU := hide hu; have HM := hide hM; have HNM := hide hnM; have HPC := hide hpc
  obtain ⟨N, hN⟩ : ∃ N, N = S.length := ⟨_, rfl⟩
  have HN := hide hN
  rw [← hN] at hSc hSl ⊢
  obtain ⟨bM, oM, sM⟩ := ad
  obtain ⟨b0, o0, e0, hbM, hjunk⟩ := hM.2 0 (by omega)
  cases e0
  clear hjunk hS hu hM hnM hN hpc
  go_enter Tryz.func156, Tryz.ntmps156
  go_wp2_with fail
  go_loopw [6, 16] (fun v6 v16 wr => ∃ (k st : Nat), v16 = .int .i64 k ∧ v6 = .int .i64 st ∧ k ≤ nM ∧ st ≤ N ∧ Hid ((∀ m ∈ S.take st, ∀ x ∈ M.take k, m.1 < x.1) ∧ Below W.heap.size W wr)) (fun _ v16 _ => nM - (intOf v16).toNat)
  case atStart => exact ⟨0, N, rfl, rfl, by omega, by omega, (fun m _ x hx => by simp at hx), Below.refl _ _⟩
  case round =>
    obtain ⟨k, st, rfl, rfl, hk, hst, hrel⟩ := hrel
    obtain ⟨hlt, hbel⟩ := unhide hrel
    by_cases hkn : k < nM
    · have hkM : k < M.length := by rw [unhide HNM]; exact hkn
      obtain ⟨b1, o1, e1, hb1, hr1⟩ := (unhide HM).2 k hkM
      cases e1
      obtain ⟨x, y, hxy⟩ : ∃ x y, M[k] = (x, y) := ⟨_, _, rfl⟩
      have hrw : wr.rangeAt bM (oM + k * 2) [.int .i64 x, .int .i64 y] := fun j u hu => by
        rw [hxy] at hr1
        exact (hbel.cell (p := ⟨bM, oM + k * 2 + j, none⟩) hb1).trans (hr1 j u hu)
      have hld := run_ld74 hrw
      have hbA : Below W.heap.size W (wr.alloc (.cells #[.int .i64 x, .int .i64 y] 181)) := hbel.alloc hbel.size _
      have dA := hide (ahead_any S (unhide HU) (by rw [← unhide HN]; omega) p c x _ ((unhide HS).below hbA))
      rw [← unhide HN] at dA
      have HUP : Hid (∀ (r : Nat) w', r ≤ N → (∀ j, j < r → dayOf S j < x) → Below (wr.alloc (.cells #[.int .i64 x, .int .i64 y] 181)).heap.size (wr.alloc (.cells #[.int .i64 x, .int .i64 y] 181)) w' → (∀ m ∈ S.take (min st r), ∀ z ∈ M.take (k + 1), m.1 < z.1) ∧ Below W.heap.size W w') := fun r w' hr hd hb => by
        refine ⟨fun m hm z hz => ?_, hbA.trans (hb.mono hbA.size)⟩
        rw [List.take_succ_eq_append_getElem hkM, hxy] at hz
        have hm1 : m ∈ S.take st := (List.take_sublist_take_left (by omega)).subset hm
        rcases List.mem_append.1 hz with hz | hz
        · exact hlt m hm1 z hz
        · rw [List.mem_singleton] at hz
          subst hz
          have hm2 : m ∈ S.take r := (List.take_sublist_take_left (by omega)).subset hm
          obtain ⟨j, hj, rfl⟩ := List.mem_iff_getElem.1 hm2
          rw [List.length_take] at hj
          have hjS : j < S.length := by omega
          have := hd j (by omega)
          rw [dayOf_lt hjS] at this
          rw [List.getElem_take]
          exact this
      clear hlt hbel hr1 hrw hbA hxy hrel
      go_wp2_with fail
      refine (unhide dA).mono ?_
      rintro e w' ⟨r, rfl, hr, h1, h2, hb⟩
      have HF := hide (unhide HUP r w' hr h1 hb)
      clear h1 h2 hb dA HUP hld
      obtain ⟨st', hst'⟩ : ∃ st', st' = min st r := ⟨_, rfl⟩
      rw [← hst'] at HF
      have hmi : min (st : Int) r = st' := by omega
      go_wp2_with fail
      refine ⟨⟨k + 1, st', by simp, by first | rfl | (simp; omega), by omega, by omega, unhide HF⟩, by simp [intOf]; omega⟩
    · have e : k = nM := by omega
      subst e
      have eM : M.take k = M := List.take_of_length_le (by rw [unhide HNM]; omega)
      rw [eM] at hlt
      clear eM
      have hSr := (unhide HS).below hbel
      have hMr := (unhide HM).below hbel
      have dC := hide (clone_any (c := cM) (unhide HNM) (by omega) hMr)
      have HLT := hide hlt; have HB := hide hbel
      clear hlt hbel hrel hSr hMr hkn
      go_wp2_with fail
      refine (unhide dC).mono ?_
      rintro e w2 ⟨g2, c2, rfl, hown2, hb2⟩
      have hB2 : Below W.heap.size W w2 := (unhide HB).trans (hb2.mono (unhide HB).size)
      have hown2' : w2.ownsRow W.heap.size kT.e kT.s (.slice (some ⟨g2, 0, none⟩) k c2) k (kT.flat M) := row_le hown2 (unhide HB).size
      have HO2 := hide hown2'; have HB2 := hide hB2
      clear hown2 hown2' hb2 hB2 dC
      go_upto_region 8 with fail
      go_cut [0, 12, 31, 32, 33] (fun v0 v12 v31 v32 v33 wx => v0 = .slice p N c ∧ v12 = .slice p N c ∧ ∃ (q : Option Addr) (m c3 : Nat), v31 = .slice q m c3 ∧ v32 = .int .i64 m ∧ v33 = .int .i64 0 ∧ st + m = N ∧ Hid (wx = w2 ∧ Lies kM W q (S.drop st)))
      case first =>
        cases p with
        | none =>
          have hz : N = 0 := by
            have := (unhide HS).1 rfl
            rw [unhide HN, this]
            rfl
          have hc0 := unhide HPC rfl
          have hSn : S = [] := (unhide HS).1 rfl
          subst hz hc0
          have hst0 : st = 0 := by omega
          subst hst0
          go_wp2_with fail
          go_meet
          exact ⟨rfl, rfl, none, 0, 0, rfl, rfl, rfl, rfl, rfl, by rw [hSn]; exact Lies.nil _ _⟩
        | some a =>
          obtain ⟨bS, oS, sS⟩ := a
          by_cases hcs : c = st
          · have hNs : N = st := by omega
            have hd0 : S.drop st = [] := List.drop_eq_nil_of_le (by rw [← unhide HN]; omega)
            go_wp2_with fail
            go_meet
            exact ⟨by rw [hcs], by rw [hcs], some ⟨bS, oS, sS⟩, 0, 0, rfl, rfl, rfl, by omega, rfl, by rw [hd0]; exact Lies.nil _ _⟩
          · by_cases hN0 : N = 0
            · have hst0 : st = 0 := by omega
              have hd0 : S.drop st = [] := List.drop_eq_nil_of_le (by rw [← unhide HN]; omega)
              go_wp2_with fail
              go_meet
              exact ⟨by first | rfl | rw [hN0], by first | rfl | rw [hN0], some ⟨bS, oS, sS⟩, 0, c, rfl, rfl, rfl, by omega, rfl, by rw [hd0]; exact Lies.nil _ _⟩
            · have hsS : sS = none := by
                obtain ⟨b', o', e', _⟩ := (unhide HS).2 0 (by rw [← unhide HN]; omega)
                cases e'
                rfl
              subst hsS
              have hpt := (unhide HS).part st (N - st)
              rw [List.take_of_length_le (by rw [List.length_drop, ← unhide HN]; omega)] at hpt
              have HPT := hide hpt
              clear hpt
              go_wp2_with fail
              go_meet
              refine ⟨rfl, rfl, _, N - st, _, rfl, ?_, rfl, by omega, rfl, unhide HPT⟩
              simp
      obtain ⟨rfl, rfl, q, m, c3, rfl, rfl, rfl, hstm, hwq⟩ := hcut
      obtain ⟨hwc, hq⟩ := unhide hwq
      rw [hwc]
      have HQ := hide hq
      clear hwq hwc hq wc
      obtain ⟨D, hD⟩ : ∃ D, D = S.drop st := ⟨_, rfl⟩
      have HDl : Hid (D.length = m) := by show _ = _; rw [hD, List.length_drop, ← unhide HN]; omega
      rw [← hD] at HQ
      have HD := hide hD
      clear hD
      go_wp2_with fail
      go_loopw [9, 33] (fun v9 v33 wr => ∃ (j c9 : Nat) (p9 : Option Addr), v33 = .int .i64 j ∧ v9 = .slice p9 (k + j) c9 ∧ j ≤ m ∧ Hid (wr.ownsRow W.heap.size kT.e kT.s (.slice p9 (k + j) c9) (k + j) (kT.flat (M ++ tld (D.take j))) ∧ Below W.heap.size W wr)) (fun _ v33 _ => m - (intOf v33).toNat)
      case atStart => exact ⟨0, c2, _, rfl, rfl, by omega, by simpa [tld] using unhide HO2, unhide HB2⟩
      case round =>
        obtain ⟨j, c9, p9, rfl, rfl, hj, hrel⟩ := hrel
        obtain ⟨hown, hbel⟩ := unhide hrel
        by_cases hjm : j < m
        · have hjD : j < D.length := by rw [unhide HDl]; exact hjm
          obtain ⟨bq, oq, eq1, hbq, hrq⟩ := (unhide HQ).2 j hjD
          subst eq1
          obtain ⟨x, y, z, hxyz⟩ : ∃ x y z, D[j] = (x, y, z) := ⟨_, _, _, rfl⟩
          have hrw : wr.rangeAt bq (oq + j * 3) [.int .i64 x, .int .i64 y, .int .i64 z] := fun i u hu => by
            rw [hxyz] at hrq
            exact (hbel.cell (p := ⟨bq, oq + j * 3 + i, none⟩) hbq).trans (hrq i u hu)
          have hld := run_ld82 hrw
          obtain ⟨O1, hO1⟩ : ∃ O, O = Obj.cells #[.int .i64 x, .int .i64 y, .int .i64 z] 187 := ⟨_, rfl⟩
          obtain ⟨O2, hO2⟩ : ∃ O, O = Obj.cells #[.int .i64 x, .int .i64 y] 181 := ⟨_, rfl⟩
          have hld2 : (ld74 (.pointer (some ⟨wr.heap.size, 0, none⟩))).run Tryz.prog (wr.alloc O1) = .ok (.agg #[.int .i64 x, .int .i64 y]) (wr.alloc O1) := run_ld74 (fun i u hu => by
            rw [hO1, World.cell?_alloc_mark, Nat.zero_add]
            rcases i with _ | _ | i
            · simpa using hu
            · simpa using hu
            · simp at hu)
          have hb1 : Below W.heap.size W (wr.alloc O1) := hbel.alloc hbel.size _
          have hb2 : Below W.heap.size W ((wr.alloc O1).alloc O2) := hb1.alloc hb1.size _
          have e1 : (wr.alloc O1).heap.size = wr.heap.size + 1 := by simp
          obtain ⟨p', c', w', hr, ho, hb, _, _⟩ := run_app kT_ok (L := M ++ tld (D.take j)) (M := [(x, y)]) 94 ((hown.alloc O1).alloc O2) hb2.size (some ⟨wr.heap.size + 1, 0, none⟩) 1 (fun h => by cases h) (by rw [← e1, hO2]; exact one_lies _ (x, y) 181 _ rfl) (by simp; omega)
          rw [List.length_singleton] at hr ho
          have hetk : tld (D.take (j + 1)) = tld (D.take j) ++ [(x, y)] := by
            unfold tld
            rw [List.take_succ_eq_append_getElem hjD, List.map_append, hxyz]
            rfl
          have HFIN : Hid (w'.ownsRow W.heap.size kT.e kT.s (.slice p' (k + (j + 1)) c') (k + (j + 1)) (kT.flat (M ++ tld (D.take (j + 1)))) ∧ Below W.heap.size W w') := by
            refine ⟨?_, hb2.trans hb⟩
            rw [hetk, ← List.append_assoc]
            exact ho
          have HR := hide hr
          clear hr ho hb hb1 hb2 hetk hown hbel hrq hrw hxyz hrel hjD
          subst hO1 hO2
          go_wp2_with (at_builtin; refine wpList_append_run rfl _ _ 94 rfl _ _ _ _ rfl rfl (unhide HR) ?_)
          refine ⟨⟨j + 1, c', p', by simp, by rw [Nat.add_assoc], by omega, unhide HFIN⟩, by simp [intOf]; omega⟩
        · have ej : j = m := by omega
          subst ej
          have eD : D.take j = D := List.take_of_length_le (by rw [unhide HDl]; omega)
          rw [eD] at hown
          obtain ⟨g9, hp9, hc9, hB9⟩ := some_row hown (by omega)
          subst hp9
          have hlenA : (M ++ tld D).length = k + j := by rw [List.length_append, unhide HNM]; unfold tld; rw [List.length_map, unhide HDl]
          have dS := hide (sort_any hlenA (by omega) hbel.size hown)
          have HB9 := hide hbel
          clear hown hbel hrel hjm eD hlenA
          go_wp2_with fail
          refine (unhide dS).mono ?_
          rintro e w9 ⟨rfl, A, hperm, hsrt, hlA, hb9⟩
          have hlA2 : A.length = k + j := by
            have h1 := hperm.length_eq
            rw [List.length_append, unhide HNM] at h1
            unfold tld at h1
            rw [List.length_map, unhide HDl] at h1
            exact h1
          rw [unhide HD] at hperm
          have HFIN := hide (show ∃ (st' g' c' n' : Nat) (A' : List (Int × Int)), Ending.returned (.tuple #[.int .i64 st, .slice (some ⟨g9, 0, none⟩) (k + j) c9]) = .returned (.tuple #[.int .i64 st', .slice (some ⟨g', 0, none⟩) n' c']) ∧ st' ≤ N ∧ A'.length = n' ∧ n' ≤ c' ∧ A'.Perm (M ++ tld (S.drop st')) ∧ A'.Pairwise (fun a b => a.1 ≤ b.1) ∧ (∀ m ∈ S.take st', ∀ x ∈ M, m.1 < x.1) ∧ Lies kT w9 (some ⟨g', 0, none⟩) A' ∧ Below W.heap.size W w9 from ⟨st, g9, c9, k + j, A, rfl, by omega, hlA2, hc9, hperm, hsrt, unhide HLT, hlA, (unhide HB9).trans hb9⟩)
          clear hperm hsrt hlA hb9 hlA2 dS
          go_wp2_with fail
          go_ret2
          exact unhide HFIN
end Go.Proofs.YtmgnlgobkkfjhaaGreatDoor
