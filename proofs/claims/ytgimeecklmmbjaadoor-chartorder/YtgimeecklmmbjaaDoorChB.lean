/- chart: the tree in memory; place (37), slices.Backward (47) and its iterator (69). -/
import Derived.Test.YtgimeecklmmbjaaDoorChA
import Derived.Test.YtgimeecklmmbjaaDoorRngS
namespace Go.Proofs.YtgimeecklmmbjaaDoor
open Go Go.Shelf Go.ChangeShapes Go.WideShapes Go.ChangeAt Go.RowKit Go.Maps
set_option linter.unusedVariables false
attribute [local go_sem] Oper.semAt_some
/-- where the nodes and their rows lie -/
structure Gh where
  nd : Nm → Nat
  kb : Nm → Option Nat
  kc : Nm → Nat
  ex : Nm → List Value
def ksl (g : Gh) (L : List Ac) (x : Nm) : Value := .slice ((g.kb x).map fun q => ⟨q, 0, none⟩) (kids L x).length (g.kc x)
def top0 : Ac := ⟨[], 0, 0, false⟩
def cellsA (a : Ac) (s : Value) : Array Value := #[.string (txN a.nm), .int .i64 a.ty, .int .i64 a.dy, .bool a.cl, s]
/-- the top, or an account's name -/
def isN (L : List Ac) (x : Nm) : Prop := x = [] ∨ ∃ a ∈ L, a.nm = x
def rowA (g : Gh) (L : List Ac) (x : Nm) : Array Value := ((kids L x).map (fun y => ptr (g.nd y)) ++ g.ex x).toArray
/-- the chart at the block d, its own blocks within S -/
structure ChAt (W : World) (d : Nat) (S : Nat → Prop) (L : List Ac) (g : Gh) : Prop where
  top : g.nd [] = d
  tn : W.heap[d]? = some (.cells (cellsA top0 (ksl g L [])) 61)
  node : ∀ a ∈ L, W.heap[g.nd a.nm]? = some (.cells (cellsA a (ksl g L a.nm)) 59)
  row : ∀ x, isN L x → (kids L x = [] ∧ g.kb x = none ∧ g.kc x = 0) ∨ ∃ q, g.kb x = some q ∧ W.heap[q]? = some (.cells (rowA g L x) 63) ∧ (kids L x).length + (g.ex x).length = g.kc x ∧ kids L x ≠ [] ∧ g.kc x ≤ maxLen
  sd : S d
  sn : ∀ a ∈ L, S (g.nd a.nm)
  sq : ∀ x q, isN L x → g.kb x = some q → S q
theorem ChAt.keep {W W' : World} {d : Nat} {S : Nat → Prop} {L : List Ac} {g : Gh} (h : ChAt W d S L g) (hk : ∀ k, S k → W'.heap[k]? = W.heap[k]?) : ChAt W' d S L g :=
  ⟨h.top, (hk d h.sd).trans h.tn, fun a ha => (hk _ (h.sn a ha)).trans (h.node a ha), fun x hx => by
    rcases h.row x hx with h1 | ⟨q, h1, h2, h3⟩
    · exact .inl h1
    · exact .inr ⟨q, h1, (hk q (h.sq x q hx h1)).trans h2, h3⟩, h.sd, h.sn, h.sq⟩
theorem cell_of {W : World} {b : Nat} {c : Array Value} {t : TypeId} (h : W.heap[b]? = some (.cells c t)) {k : Nat} {v : Value} (hk : c[k]? = some v) : W.cell? ⟨b, k, none⟩ = some v := by
  unfold World.cell?
  simp only [h]
  simpa using hk
theorem froz_of {W : World} {b : Nat} {c : Array Value} {t : TypeId} (h : W.heap[b]? = some (.cells c t)) (k : Nat) : W.frozen? ⟨b, k, none⟩ = false := by
  unfold World.frozen?
  simp [h]
theorem ChAt.name {W : World} {d : Nat} {S : Nat → Prop} {L : List Ac} {g : Gh} (h : ChAt W d S L g) {a : Ac} (ha : a ∈ L) : W.cell? ⟨g.nd a.nm, 0, none⟩ = some (.string (txN a.nm)) := cell_of (h.node a ha) rfl
theorem ChAt.kids4 {W : World} {d : Nat} {S : Nat → Prop} {L : List Ac} {g : Gh} (h : ChAt W d S L g) {x : Nm} (hx : isN L x) : W.cell? ⟨g.nd x, 4, none⟩ = some (ksl g L x) := by
  rcases hx with rfl | ⟨a, ha, rfl⟩
  · rw [h.top]; exact cell_of h.tn rfl
  · exact cell_of (h.node a ha) rfl
theorem ChAt.rowK {W : World} {d : Nat} {S : Nat → Prop} {L : List Ac} {g : Gh} (h : ChAt W d S L g) {x : Nm} (hx : isN L x) : kids L x = [] ∨ ∃ q, ksl g L x = .slice (some ⟨q, 0, none⟩) (kids L x).length (g.kc x) ∧ RowK W q g.nd (kids L x) := by
  rcases h.row x hx with ⟨h1, h2⟩ | ⟨q, h1, h2, h3, h4⟩
  · exact .inl h1
  · refine .inr ⟨q, by rw [ksl, h1]; rfl, fun j hj => cell_of h2 ?_, fun y hy => ?_⟩
    · rw [rowA, List.getElem?_toArray, List.getElem?_append_left (by simpa using hj), List.getElem?_map, List.getElem?_eq_getElem hj]
      rfl
    · obtain ⟨⟨a, ha, rfl⟩, _⟩ := mem_kids.1 hy
      exact h.name ha
theorem kids_len (L : List Ac) (x : Nm) : (kids L x).length ≤ L.length := by
  rw [kids, List.length_map]
  exact List.length_filter_le ..
set_option maxHeartbeats 2000000 in
theorem bsf_none (w : World) (p : Option Addr) (cap : Nat) (t : ByteArray) : Calls Tryd.prog 50 #[.slice p 0 cap, .string t, .func (.func 51) #[] #[]] w fun e w' => e = .returned (.tuple #[.int .i64 (0 : Nat), .bool false]) ∧ w' = w := by
  go_enter Tryd.func50, Tryd.ntmps50
  go_wp2
  refine wp_loop_rounds 1 ?_
  rw [rounds_succ]
  go_wp2
  go_ret2
  exact ⟨rfl, rfl⟩
set_option maxHeartbeats 1000000 in
theorem place_any {W : World} {d : Nat} {S : Nat → Prop} {L : List Ac} {g : Gh} (h : ChAt W d S L g) (hG : Good L) {x : Nm} (hx : isN L x) (t : ByteArray) :
    Calls Tryd.prog 37 #[ptr (g.nd x), .string t] W fun e w' => e = .returned (.tuple #[.int .i64 (posK (kids L x) t.data.toList : Nat), .bool (decide (t.data.toList ∈ kids L x))]) ∧ w' = W := by
  have h4 := h.kids4 hx
  have D : Hid (Calls Tryd.prog 50 #[ksl g L x, .string t, .func (.func 51) #[] #[]] W fun e w' => e = .returned (.tuple #[.int .i64 (posK (kids L x) t.data.toList : Nat), .bool (decide (t.data.toList ∈ kids L x))]) ∧ w' = W) := by
    rcases h.rowK hx with h1 | ⟨q, h1, h2⟩
    · have e1 : ksl g L x = .slice ((g.kb x).map fun q => ⟨q, 0, none⟩) 0 (g.kc x) := by rw [ksl, h1]; rfl
      rw [e1, h1]
      exact bsf_none W _ _ t
    · rw [h1]
      exact bsf_any W q _ _ g.nd _ rfl (Nat.le_trans (kids_len L x) hG.len) t h2 (hG.kids_rise x)
  obtain ⟨b, hb⟩ : ∃ b, b = g.nd x := ⟨_, rfl⟩
  rw [← hb] at h4 ⊢
  obtain ⟨v, hv⟩ : ∃ v, v = ksl g L x := ⟨_, rfl⟩
  rw [← hv] at h4 D
  clear hb hv h hG hx
  go_enter Tryd.func37, Tryd.ntmps37
  go_wp2_with fail
  refine (unhide D).mono ?_
  rintro e w' ⟨rfl, rfl⟩
  go_wp2_with fail
  go_ret2
  exact ⟨rfl, rfl⟩
/-- the blocks that slices.Backward's iterator reads -/
def gdB : Obj → Bool
  | .loop _ => true
  | .deferred _ => true
  | .cells _ t _ => t == 48 || t == 9
  | _ => false
theorem gdB_lpy (o : Obj) (h : lpy o = true) : gdB o = true := by
  cases o <;> simp_all [lpy, gdB]
theorem back_any (p : Option Addr) (n c : Nat) (w : World) : Calls Tryd.prog 47 #[.slice p n c] w fun e w' => e = .returned (.func (.func 69) #[] #[ptr w.heap.size]) ∧ w' = w.alloc (.cells #[.slice p n c] 48) := by
  go_enter Tryd.func47, Tryd.ntmps47
  go_wp2_with fail
  go_ret
  exact ⟨rfl, rfl⟩
theorem enters69 : ∀ args w, (callFunc 69 args).run Tryd.prog w = .ok (.enter 69 args) w := by
  exact enters_of Tryd.func69 (by kernel_rfl) rfl
/-- a list's places and elements, the last first -/
def backL (l : List Nm) : List (Nat × Nm) := ((List.range l.length).map fun j => (j, l.getD j [])).reverse
theorem backL_len (l : List Nm) : (backL l).length = l.length := by simp [backL]
theorem backL_get (l : List Nm) (k : Nat) (hk : k < l.length) : (backL l)[k]'(by rw [backL_len]; exact hk) = (l.length - 1 - k, l.getD (l.length - 1 - k) []) := by
  simp [backL]
def encB (p : Nat × Nm) : Array Value := #[.int .i64 p.1, .string (txN p.2)]
def intOf' : Value → Int
  | .int _ z => z
  | _ => 0
set_option maxRecDepth 100000 in
set_option maxHeartbeats 4000000 in
theorem back_gives (l : List Nm) (hl : l.length ≤ 100) (B q cap : Nat) (f : Array Value) (w : World) (hB : w.heap[B]? = some (.cells #[.slice (some ⟨q, 0, none⟩) l.length cap] 48)) (hq : w.heap[q]? = some (.cells f 9)) (hf : ∀ j (h : j < l.length), f[j]? = some (.string (txN l[j]))) :
    GivesS gdB Tryd.prog 69 #[ptr B] encB (backL l) w := by
  intro L J Jx W hW hJ hJx hY h0
  obtain ⟨n, hn⟩ : ∃ n, n = l.length := ⟨_, rfl⟩
  rw [← hn] at hB hl
  have wB : W.heap[B]? = some (.cells #[.slice (some ⟨q, 0, none⟩) n cap] 48) := (hW.block B (Array.getElem?_eq_some_iff.1 hB).1).trans hB
  have wq : W.heap[q]? = some (.cells f 9) := (hW.block q (Array.getElem?_eq_some_iff.1 hq).1).trans hq
  have hcB := cell_of wB (k := 0) rfl
  have HY := hide hY; have HJ := hide hJ; have HX := hide hJx; have H0 := hide h0; have WB := hide wB; have WQ := hide wq; have HF := hide hf; have HN := hide hn
  clear hY hJ hJx h0 hB hW wB wq hq hf hn
  refine (callsIn_wide (n := 4)).1 ?_
  refine callsIn_of_wp Tryd.func69 rfl trivial ?_ rfl
  simp only [Tryd.ntmps69, List.size_toArray, List.length_cons, List.length_nil, Nat.reduceAdd, Nat.reduceSub, Array.replicate_succ, Array.replicate_zero, List.push_toArray, List.append_toArray, List.nil_append, List.cons_append]
  have hw1 : IntKind.i64.wrap ((n : Int) - 1) = (n : Int) - 1 := by rw [IntKind.wrap_i64]; omega
  gi_wp2_with fail
  gi_loopw [3] (fun v3 wr => ∃ k : Nat, k ≤ n ∧ v3 = .int .i64 ((n : Int) - 1 - k) ∧ Hid (J ((backL l).take k) wr) ∧ Hid (KeepsG gdB W wr)) (fun v3 _ => (intOf' v3 + 1).toNat)
  case atStart => exact ⟨0, Nat.zero_le _, by simp, unhide H0, KeepsG.refl _ _⟩
  case round =>
    obtain ⟨k, hk, rfl, hj, hkp⟩ := hrel
    have r1 := (unhide hkp).same _ _ (unhide WB) rfl
    have c1 := cell_of r1 (k := 0) rfl
    by_cases hlt : k < n
    · obtain ⟨i, hi⟩ : ∃ i : Nat, i = n - 1 - k := ⟨_, rfl⟩
      have e1 : (n : Int) - 1 - k = (i : Int) := by omega
      have hil : i < l.length := by rw [← unhide HN]; omega
      have c2 : wr.cell? ⟨q, i, none⟩ = some (.string (txN l[i])) := cell_of ((unhide hkp).same _ _ (unhide WQ) rfl) (unhide HF i hil)
      have hge : (0 : Int) ≤ (i : Int) := by omega
      obtain ⟨s, hs⟩ : ∃ s, s = l[i] := ⟨_, rfl⟩
      rw [← hs] at c2
      have ex : (backL l)[k]'(by rw [backL_len, ← unhide HN]; exact hlt) = (i, s) := by
        have hL2 := unhide HN
        rw [backL_get l k (by omega), hs, ← hL2, ← hi, List.getD_eq_getElem?_getD, List.getElem?_eq_getElem hil]
        rfl
      have hpre : (backL l).take k ++ [(i, s)] = (backL l).take (k + 1) := by rw [← ex, List.take_append_getElem]
      obtain ⟨fn, tmps, assign, body, hy, hR⟩ := unhide HY ((backL l).take k) (i, s) wr (unhide hj) (by rw [hpre]; exact List.take_prefix ..)
      rw [hpre] at hR
      have HR := hide (round_any (m' := 4 - 1) hR)
      have hw2 : IntKind.i64.wrap ((i : Int) - 1) = (i : Int) - 1 := by rw [IntKind.wrap_i64]; omega
      have hi1 : i < n := by omega
      have HI := hide hi
      rw [e1]
      clear hR hpre ex hs hi hj e1
      unfold encB at hy
      gi_wp2_with fail
      refine (unhide HR).mono ?_
      rintro e W3 (⟨rfl, hJ3, hk3⟩ | ⟨rfl, hx3, _⟩)
      · have J3 := hide hJ3; have K3 := hide hk3
        clear hJ3 hk3
        gi_wp2
        refine ⟨⟨k + 1, by omega, ?_, unhide J3, (unhide hkp).trans (unhide K3)⟩, ?_⟩
        · congr 1
          have := unhide HI
          omega
        · show ((i : Int) - 1 + 1).toNat < ((i : Int) + 1).toNat
          omega
      · have X3 := hide hx3
        clear hx3
        gi_wp2_with fail
        refine bodyPost_ret (results_none rfl _ _ _) rfl ?_
        exact ⟨⟨_, rfl⟩, .inr ⟨_, List.take_prefix .., unhide X3⟩⟩
    · have e1 : (n : Int) - 1 - k = -1 := by omega
      have HX2 : Hid (J (backL l) wr) := by
        have := unhide hj
        rw [List.take_of_length_le (by rw [backL_len, ← unhide HN]; omega)] at this
        exact this
      rw [e1]
      clear hj e1
      gi_wp2
      go_end0
      exact ⟨⟨_, rfl⟩, .inl (unhide HX2)⟩
end Go.Proofs.YtgimeecklmmbjaaDoor
