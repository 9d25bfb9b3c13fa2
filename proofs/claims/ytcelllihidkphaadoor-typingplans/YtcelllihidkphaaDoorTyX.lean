/- typing: isOfField 55, slices.Index 72, Contains 56, isAccounts 31, isDays 73. -/
import Derived.Test.YtcelllihidkphaaDoorTyT
namespace Go.Proofs.YtcelllihidkphaaDoor
open Go Go.Shelf Go.ChangeShapes Go.WideShapes Go.ChangeAt Go.RowKit Go.Maps
set_option linter.unusedVariables false
set_option maxRecDepth 100000
set_option maxHeartbeats 4000000
def isOf (x : Nd) (f : Int) : Bool := x.op == 16 && x.field == f
theorem isOf_any (x : Nd) (f : Int) (w : World) : Calls Tryd.prog 55 #[x.val, .int .i64 f] w fun e w' => e = .returned (.bool (isOf x f)) ∧ Below w.heap.size w w' := by
  obtain ⟨o, l, r, fl, m, s⟩ := x
  have HB : Hid (∀ o, Below w.heap.size w (w.alloc o)) := Below.a1 w
  unfold Nd.val isOf
  simp only
  by_cases h : o = 16
  · subst h
    go_enter Tryd.func55, Tryd.ntmps55
    go_wp2_with fail
    go_ret
    exact ⟨by simp, unhide HB _⟩
  · have h' := beqF h
    rw [h']
    go_enter Tryd.func55, Tryd.ntmps55
    go_wp2_with fail
    go_ret
    exact ⟨rfl, unhide HB _⟩
/-- what Index answers -/
def IdxOut (L : List Int) (x : Int) (e : Ending) : Prop := ∃ i : Int, e = .returned (.int .i64 i) ∧ (decide (0 ≤ i) = L.contains x)
theorem index_any {W : World} {p : Option Addr} {n c : Nat} {L : List Int} (hn : L.length = n) (hL : Lies kI W p L) (hb : n ≤ 100) (x : Int) : Calls Tryd.prog 72 #[.slice p n c, .int .i64 x] W fun e w' => IdxOut L x e ∧ w' = W := by
  have HL := hide hL; have HN := hide hn
  clear hL hn
  go_enter Tryd.func72, Tryd.ntmps72
  go_wp2_with fail
  go_loop [8] (fun v8 => ∃ (k : Nat), v8 = .int .i64 k ∧ k ≤ n ∧ Hid (∀ y ∈ L.take k, ¬ x = y)) (fun v8 => n - (intOf v8).toNat)
  case atStart => exact ⟨0, rfl, by omega, fun y hy => by simp at hy⟩
  case round =>
    obtain ⟨k, rfl, hk, hrel⟩ := hrel
    by_cases hlt : k < n
    · have hkl : k < L.length := by rw [unhide HN]; exact hlt
      obtain ⟨b, off, e1, hbl, hr⟩ := (unhide HL).2 k hkl
      obtain ⟨y, hy⟩ : ∃ y, y = L[k] := ⟨_, rfl⟩
      rw [← hy] at hr
      have hc := hr 0 (.int .i64 y) rfl
      simp only [kI, Nat.mul_one, Nat.add_zero] at hc
      have hmem : Hid (y ∈ L) := by rw [hy]; exact List.getElem_mem hkl
      have htk : Hid (∀ z ∈ L.take (k + 1), z ∈ L.take k ∨ z = y) := fun z hz => by
        rw [List.take_succ_eq_append_getElem hkl, List.mem_append, List.mem_singleton, ← hy] at hz
        exact hz
      have hkn : (k : Int) < (n : Int) := by omega
      subst e1
      clear hr hy hkl
      by_cases e : x = y
      · have hfin : Hid (L.contains x = true) := by show _ = _; rw [e]; simpa using unhide hmem
        subst e
        go_wp2_with fail
        go_ret
        exact ⟨⟨(k : Int), rfl, by rw [unhide hfin, decide_eq_true (by omega)]⟩, rfl⟩
      · have e' := beqF e
        go_wp2_with fail
        refine ⟨⟨k + 1, by go_num, by omega, fun z hz => ?_⟩, by simp [intOf]; omega⟩
        rcases unhide htk z hz with h | h
        · exact unhide hrel z h
        · rw [h]; exact e
    · have hkn : k = n := by omega
      subst hkn
      have hfin : Hid (L.contains x = false) := by
        show _ = _
        have h1 := unhide hrel
        rw [List.take_of_length_le (by rw [unhide HN]; exact Nat.le_refl _)] at h1
        have h2 : ¬ L.contains x = true := fun h => by
          rw [List.contains_iff_mem] at h
          exact h1 x h rfl
        simpa using h2
      go_wp2_with fail
      go_ret
      exact ⟨⟨-1, rfl, by rw [unhide hfin]; rfl⟩, rfl⟩
theorem contains_any {W : World} {p : Option Addr} {n c : Nat} {L : List Int} (hn : L.length = n) (hL : Lies kI W p L) (hb : n ≤ 100) (x : Int) : Calls Tryd.prog 56 #[.slice p n c, .int .i64 x] W fun e w' => e = .returned (.bool (L.contains x)) ∧ w' = W := by
  have d := hide (index_any (c := c) hn hL hb x)
  clear hL hn
  go_enter Tryd.func56, Tryd.ntmps56
  go_wp2_with fail
  refine (unhide d).mono ?_
  rintro e w1 ⟨⟨i, rfl, hi⟩, hw⟩
  rw [hw]; clear hw w1
  have HI := hide hi
  clear hi
  go_wp2_with fail
  go_ret
  refine ⟨?_, rfl⟩
  rw [← unhide HI]
  rfl
attribute [local go_sem ↓] ld37_is
/-- one of some operations between a field and a leaf -/
def twoS (L : List Nd) (k : Nat) (O : List Int) (f : Int) (o : Int) : Bool := match L[k]? with
  | none => false
  | some x => O.contains x.op && (match L[x.left.toNat]? with | none => false | some y => isOf y f) && (match L[x.right.toNat]? with | none => false | some z => z.op == o)
theorem load_nd {W X : World} {p : Option Addr} {L : List Nd} (hL : Lies kN W p L) {k : Nat} (hk : k < L.length) (hb : Below W.heap.size W X) : ∃ b off, p = some ⟨b, off, none⟩ ∧ (ld37 (.pointer (some ⟨b, off + k * 6, none⟩))).run Tryd.prog X = .ok (L[k]).val X ∧ X.rangeAt b (off + k * 6) (L[k]).vals := by
  obtain ⟨b, off, e, hbl, hr⟩ := hL.2 k hk
  have hx : X.rangeAt b (off + k * 6) (L[k]).vals := fun j u hu => (hb.cell (p := ⟨b, off + k * 6 + j, none⟩) hbl).trans (hr j u hu)
  exact ⟨b, off, e, run_ld37 hx, hx⟩

theorem two31 {W : World} {p po : Option Addr} {n c no co : Nat} {L : List Nd} {O : List Int} (hn : L.length = n) (hL : Lies kN W p L) (hno : O.length = no) (hO : Lies kI W po O) (hb : no ≤ 100) {k : Nat} (hk : k < L.length) (hx : O.contains (L[k]).op = true → (0 ≤ (L[k]).left ∧ (L[k]).left < (n : Int)) ∧ (0 ≤ (L[k]).right ∧ (L[k]).right < (n : Int))) : Calls Tryd.prog 31 #[.slice p n c, .int .i64 k, .slice po no co] W fun e w' => e = .returned (.bool (twoS L k O 6 18)) ∧ Below W.heap.size W w' := by
  obtain ⟨b, off, hp, l1, _⟩ := load_nd hL hk (Below.refl _ W)
  subst hp
  have hkn : (k : Int) < (n : Int) := by omega
  have HT : Hid (twoS L k O 6 18 = (O.contains (L[k]).op && (match L[(L[k]).left.toNat]? with | none => false | some y => isOf y 6) && (match L[(L[k]).right.toNat]? with | none => false | some z => z.op == 18))) := by
    show _ = _; unfold twoS; rw [List.getElem?_eq_getElem hk]
  have l2 := run_ld37 (w := W.alloc (.cells (L[k]).vals.toArray 37)) (b := W.heap.size) (o := 0) (x := L[k]) (new_range W (L[k]).vals 37)
  obtain ⟨W1, hW1⟩ : ∃ X, X = W.alloc (.cells (L[k]).vals.toArray 37) := ⟨_, rfl⟩
  have hB1 : Below W.heap.size W W1 := by rw [hW1]; exact Below.a1 W _
  have hc : ∀ X, Below W1.heap.size W1 X → ∀ j v, (L[k]).vals[j]? = some v → X.cell? ⟨W.heap.size, j, none⟩ = some v := fun X h j v hv => by
    have h1 : W.heap.size < W1.heap.size := by rw [hW1]; simp
    rw [h.cell (p := ⟨W.heap.size, j, none⟩) h1, hW1]
    have := new_range W (L[k]).vals 37 j v hv
    rw [Nat.zero_add] at this
    exact this
  have dC := hide (contains_any (c := co) hno (hO.below hB1) hb (L[k]).op)
  have HB1 := hide hB1
  obtain ⟨x, hxx⟩ : ∃ x, x = L[k] := ⟨_, rfl⟩
  rw [← hxx] at l1 dC HT hx hc
  have hW1' : W1 = W.alloc (.cells #[.int .i64 x.op, .int .i64 x.left, .int .i64 x.right, .int .i64 x.field, .int .i64 x.num, .string x.text] 37) := by rw [hW1, ← hxx]; rfl
  have l1' : (ld37 (.pointer (some ⟨b, off + k * 6, none⟩))).run Tryd.prog W = .ok (.agg #[.int .i64 x.op, .int .i64 x.left, .int .i64 x.right, .int .i64 x.field, .int .i64 x.num, .string x.text]) W := l1
  have c0 := hc W1 (Below.refl _ _) 0 _ rfl
  have c1 := hc W1 (Below.refl _ _) 1 _ rfl
  have HC2 : Hid (∀ X, Below W1.heap.size W1 X → X.cell? ⟨W.heap.size, 2, none⟩ = some (.int .i64 x.right)) := fun X h => hc X h 2 _ rfl
  clear l1 l2 hc hW1
  obtain ⟨ct, hct⟩ : ∃ v, v = O.contains x.op := ⟨_, rfl⟩
  rw [← hct] at dC HT hx
  clear hct
  cases ct with
  | false =>
    clear hx hO hno hL hn hxx
    go_enter Tryd.func31, Tryd.ntmps31
    go_upto_region 2 with fail
    rw [← hW1']
    clear hW1' l1'
    go_wp2_with fail
    refine (unhide dC).mono ?_
    rintro e w1 ⟨rfl, hw⟩
    rw [hw]; clear hw w1
    go_wp2_with fail
    go_ret
    exact ⟨by rw [unhide HT]; rfl, unhide HB1⟩
  | true =>
    obtain ⟨⟨h1, h2⟩, h3, h4⟩ := hx rfl
    obtain ⟨l, hl⟩ : ∃ l : Nat, x.left = l := ⟨x.left.toNat, by omega⟩
    obtain ⟨r, hr⟩ : ∃ r : Nat, x.right = r := ⟨x.right.toNat, by omega⟩
    have hlL : l < L.length := by omega
    have hrL : r < L.length := by omega
    have HLY : Hid (∀ X, Below W1.heap.size W1 X → (ld37 (.pointer (some ⟨b, off + l * 6, none⟩))).run Tryd.prog X = .ok (L[l]).val X) := fun X h => by
      obtain ⟨b', off', e, q1, _⟩ := load_nd hL hlL ((unhide HB1).trans (h.mono (unhide HB1).size))
      cases e; exact q1
    have HRZ : Hid (∀ X, Below W1.heap.size W1 X → X.cell? ⟨b, off + r * 6, none⟩ = some (.int .i64 (L[r]).op)) := fun X h => by
      obtain ⟨b', off', e, _, q2⟩ := load_nd hL hrL ((unhide HB1).trans (h.mono (unhide HB1).size))
      cases e; exact q2 0 _ rfl
    have hT2 : Hid (twoS L k O 6 18 = (isOf (L[l]) 6 && ((L[r]).op == 18))) := by
      show _ = _
      rw [unhide HT, hl, hr, Int.toNat_natCast, Int.toNat_natCast, List.getElem?_eq_getElem hlL, List.getElem?_eq_getElem hrL]
      rfl
    have dI := hide (fun X => isOf_any (L[l]) 6 X)
    obtain ⟨y, hy⟩ : ∃ y, y = (L[l]).val := ⟨_, rfl⟩
    obtain ⟨oz, hoz⟩ : ∃ z, z = (L[r]).op := ⟨_, rfl⟩
    obtain ⟨iy, hiy⟩ : ∃ z, z = isOf (L[l]) 6 := ⟨_, rfl⟩
    rw [← hy] at HLY dI
    rw [← hoz] at HRZ hT2
    rw [← hiy] at dI hT2
    have ly := unhide HLY _ (Below.refl _ _)
    have hln : (l : Int) < (n : Int) := by omega
    have hrn : (r : Int) < (n : Int) := by omega
    rw [hl] at c1
    rw [hr] at HC2
    clear hx hO hno hL hn hxx hy hoz hiy h1 h2 h3 h4 hlL hrL hl hr
    cases iy with
    | false =>
      go_enter Tryd.func31, Tryd.ntmps31
      go_upto_region 2 with fail
      rw [← hW1']
      clear hW1' l1'
      go_wp2_with fail
      refine (unhide dC).mono ?_
      rintro e w1 ⟨rfl, hw⟩
      rw [hw]; clear hw w1
      go_wp2_with fail
      refine (unhide dI _).mono ?_
      rintro e w2 ⟨rfl, hw⟩
      have HW := hide hw
      clear hw
      go_wp2_with fail
      go_ret
      exact ⟨by rw [unhide hT2]; rfl, (unhide HB1).trans ((unhide HW).mono (unhide HB1).size)⟩
    | true =>
      go_enter Tryd.func31, Tryd.ntmps31
      go_upto_region 2 with fail
      rw [← hW1']
      clear hW1' l1'
      go_wp2_with fail
      refine (unhide dC).mono ?_
      rintro e w1 ⟨rfl, hw⟩
      rw [hw]; clear hw w1
      go_wp2_with fail
      refine (unhide dI _).mono ?_
      rintro e w2 ⟨rfl, hw⟩
      have HW := hide hw
      have c2 := unhide HC2 _ hw
      have cz := unhide HRZ _ hw
      clear hw
      go_wp2_with fail
      go_ret
      exact ⟨by rw [unhide hT2]; rfl, (unhide HB1).trans ((unhide HW).mono (unhide HB1).size)⟩

theorem two73 {W : World} {p po : Option Addr} {n c no co : Nat} {L : List Nd} {O : List Int} (hn : L.length = n) (hL : Lies kN W p L) (hno : O.length = no) (hO : Lies kI W po O) (hb : no ≤ 100) {k : Nat} (hk : k < L.length) (hx : O.contains (L[k]).op = true → (0 ≤ (L[k]).left ∧ (L[k]).left < (n : Int)) ∧ (0 ≤ (L[k]).right ∧ (L[k]).right < (n : Int))) : Calls Tryd.prog 73 #[.slice p n c, .int .i64 k, .slice po no co] W fun e w' => e = .returned (.bool (twoS L k O 3 19)) ∧ Below W.heap.size W w' := by
  obtain ⟨b, off, hp, l1, _⟩ := load_nd hL hk (Below.refl _ W)
  subst hp
  have hkn : (k : Int) < (n : Int) := by omega
  have HT : Hid (twoS L k O 3 19 = (O.contains (L[k]).op && (match L[(L[k]).left.toNat]? with | none => false | some y => isOf y 3) && (match L[(L[k]).right.toNat]? with | none => false | some z => z.op == 19))) := by
    show _ = _; unfold twoS; rw [List.getElem?_eq_getElem hk]
  have l2 := run_ld37 (w := W.alloc (.cells (L[k]).vals.toArray 37)) (b := W.heap.size) (o := 0) (x := L[k]) (new_range W (L[k]).vals 37)
  obtain ⟨W1, hW1⟩ : ∃ X, X = W.alloc (.cells (L[k]).vals.toArray 37) := ⟨_, rfl⟩
  have hB1 : Below W.heap.size W W1 := by rw [hW1]; exact Below.a1 W _
  have hc : ∀ X, Below W1.heap.size W1 X → ∀ j v, (L[k]).vals[j]? = some v → X.cell? ⟨W.heap.size, j, none⟩ = some v := fun X h j v hv => by
    have h1 : W.heap.size < W1.heap.size := by rw [hW1]; simp
    rw [h.cell (p := ⟨W.heap.size, j, none⟩) h1, hW1]
    have := new_range W (L[k]).vals 37 j v hv
    rw [Nat.zero_add] at this
    exact this
  have dC := hide (contains_any (c := co) hno (hO.below hB1) hb (L[k]).op)
  have HB1 := hide hB1
  obtain ⟨x, hxx⟩ : ∃ x, x = L[k] := ⟨_, rfl⟩
  rw [← hxx] at l1 dC HT hx hc
  have hW1' : W1 = W.alloc (.cells #[.int .i64 x.op, .int .i64 x.left, .int .i64 x.right, .int .i64 x.field, .int .i64 x.num, .string x.text] 37) := by rw [hW1, ← hxx]; rfl
  have l1' : (ld37 (.pointer (some ⟨b, off + k * 6, none⟩))).run Tryd.prog W = .ok (.agg #[.int .i64 x.op, .int .i64 x.left, .int .i64 x.right, .int .i64 x.field, .int .i64 x.num, .string x.text]) W := l1
  have c0 := hc W1 (Below.refl _ _) 0 _ rfl
  have c1 := hc W1 (Below.refl _ _) 1 _ rfl
  have HC2 : Hid (∀ X, Below W1.heap.size W1 X → X.cell? ⟨W.heap.size, 2, none⟩ = some (.int .i64 x.right)) := fun X h => hc X h 2 _ rfl
  clear l1 l2 hc hW1
  obtain ⟨ct, hct⟩ : ∃ v, v = O.contains x.op := ⟨_, rfl⟩
  rw [← hct] at dC HT hx
  clear hct
  cases ct with
  | false =>
    clear hx hO hno hL hn hxx
    go_enter Tryd.func73, Tryd.ntmps73
    go_upto_region 2 with fail
    rw [← hW1']
    clear hW1' l1'
    go_wp2_with fail
    refine (unhide dC).mono ?_
    rintro e w1 ⟨rfl, hw⟩
    rw [hw]; clear hw w1
    go_wp2_with fail
    go_ret
    exact ⟨by rw [unhide HT]; rfl, unhide HB1⟩
  | true =>
    obtain ⟨⟨h1, h2⟩, h3, h4⟩ := hx rfl
    obtain ⟨l, hl⟩ : ∃ l : Nat, x.left = l := ⟨x.left.toNat, by omega⟩
    obtain ⟨r, hr⟩ : ∃ r : Nat, x.right = r := ⟨x.right.toNat, by omega⟩
    have hlL : l < L.length := by omega
    have hrL : r < L.length := by omega
    have HLY : Hid (∀ X, Below W1.heap.size W1 X → (ld37 (.pointer (some ⟨b, off + l * 6, none⟩))).run Tryd.prog X = .ok (L[l]).val X) := fun X h => by
      obtain ⟨b', off', e, q1, _⟩ := load_nd hL hlL ((unhide HB1).trans (h.mono (unhide HB1).size))
      cases e; exact q1
    have HRZ : Hid (∀ X, Below W1.heap.size W1 X → X.cell? ⟨b, off + r * 6, none⟩ = some (.int .i64 (L[r]).op)) := fun X h => by
      obtain ⟨b', off', e, _, q2⟩ := load_nd hL hrL ((unhide HB1).trans (h.mono (unhide HB1).size))
      cases e; exact q2 0 _ rfl
    have hT2 : Hid (twoS L k O 3 19 = (isOf (L[l]) 3 && ((L[r]).op == 19))) := by
      show _ = _
      rw [unhide HT, hl, hr, Int.toNat_natCast, Int.toNat_natCast, List.getElem?_eq_getElem hlL, List.getElem?_eq_getElem hrL]
      rfl
    have dI := hide (fun X => isOf_any (L[l]) 3 X)
    obtain ⟨y, hy⟩ : ∃ y, y = (L[l]).val := ⟨_, rfl⟩
    obtain ⟨oz, hoz⟩ : ∃ z, z = (L[r]).op := ⟨_, rfl⟩
    obtain ⟨iy, hiy⟩ : ∃ z, z = isOf (L[l]) 3 := ⟨_, rfl⟩
    rw [← hy] at HLY dI
    rw [← hoz] at HRZ hT2
    rw [← hiy] at dI hT2
    have ly := unhide HLY _ (Below.refl _ _)
    have hln : (l : Int) < (n : Int) := by omega
    have hrn : (r : Int) < (n : Int) := by omega
    rw [hl] at c1
    rw [hr] at HC2
    clear hx hO hno hL hn hxx hy hoz hiy h1 h2 h3 h4 hlL hrL hl hr
    cases iy with
    | false =>
      go_enter Tryd.func73, Tryd.ntmps73
      go_upto_region 2 with fail
      rw [← hW1']
      clear hW1' l1'
      go_wp2_with fail
      refine (unhide dC).mono ?_
      rintro e w1 ⟨rfl, hw⟩
      rw [hw]; clear hw w1
      go_wp2_with fail
      refine (unhide dI _).mono ?_
      rintro e w2 ⟨rfl, hw⟩
      have HW := hide hw
      clear hw
      go_wp2_with fail
      go_ret
      exact ⟨by rw [unhide hT2]; rfl, (unhide HB1).trans ((unhide HW).mono (unhide HB1).size)⟩
    | true =>
      go_enter Tryd.func73, Tryd.ntmps73
      go_upto_region 2 with fail
      rw [← hW1']
      clear hW1' l1'
      go_wp2_with fail
      refine (unhide dC).mono ?_
      rintro e w1 ⟨rfl, hw⟩
      rw [hw]; clear hw w1
      go_wp2_with fail
      refine (unhide dI _).mono ?_
      rintro e w2 ⟨rfl, hw⟩
      have HW := hide hw
      have c2 := unhide HC2 _ hw
      have cz := unhide HRZ _ hw
      clear hw
      go_wp2_with fail
      go_ret
      exact ⟨by rw [unhide hT2]; rfl, (unhide HB1).trans ((unhide HW).mono (unhide HB1).size)⟩
end Go.Proofs.YtcelllihidkphaaDoor
