import Derived.Test.YtmgnlgobkkfjhaaGreatDoorW19
import Derived.Test.YtmgnlgobkkfjhaaGreatDoorW20
import Derived.Sort.KeysCollected
/- daily: Apply (9). -/
namespace Go.Proofs.YtmgnlgobkkfjhaaGreatDoor
open Go Go.Shelf Go.ChangeShapes Go.WideShapes Go.ChangeAt Go.RowKit Go.Maps Go.Sort
set_option linter.unusedVariables false
attribute [local go_sem ↓] ld24_is
/-- the view of what was told of each account -/
structure Dv (W : World) (B d n : Nat) (mo : Option Nat) (T : List UInt8 → Td) (F : List UInt8 → List Mk) (V : List UInt8 → Value) : Prop where
  at' : DvAt W B d n mo F V
  ser : ∀ k, Ser (T k) (F k)
  fit : ∀ k, fitT (T k)
theorem DvAt.below {w w' : World} {B d n : Nat} {mo : Option Nat} {F : List UInt8 → List Mk} {V : List UInt8 → Value} (h : DvAt w B d n mo F V) (hB : B ≤ w.heap.size) (hb : Below w.heap.size w w') : DvAt w' B d n mo F V := by
  refine ⟨(hb.block d (Nat.lt_of_lt_of_le h.2.1 hB)).trans h.1, h.2.1, ?_⟩
  rcases h.2.2 with h1 | ⟨b, D, e, hb', hA⟩
  · exact .inl h1
  · exact .inr ⟨b, D, e, hb', hA.below hb⟩
/-- what Apply answers where it refuses -/
def Refused (R : List Ro) (T : List UInt8 → Td) (W : World) (e : Ending) (w' : World) : Prop :=
  ((¬ (∀ r ∈ R, okR r) ∧ e = .returned (.int .i64 1)) ∨ ((∀ r ∈ R, okR r) ∧ ¬ (∀ k, fitT (T k ++ tol R k)) ∧ e = .returned (.int .i64 11))) ∧ Below W.heap.size W w'
/-- what Apply leaves where it takes the rows -/
def Taken (R : List Ro) (T : List UInt8 → Td) (W : World) (B d n : Nat) (mo : Option Nat) (V : List UInt8 → Value) (e : Ending) (w' : World) : Prop :=
  (∀ r ∈ R, okR r) ∧ e = .returned (.int .i64 0) ∧ (∃ mo' n' F' V', Dv w' B d n' mo' (fun k => T k ++ tol R k) F' V' ∧ n' ≤ n + R.length ∧ (mo' = mo ∨ ∃ b, mo' = some b ∧ W.heap.size ≤ b) ∧ ∀ k g, (V' k).ownBlock = some g → (V k).ownBlock = some g ∨ W.heap.size ≤ g) ∧ w'.os = W.os ∧ w'.tape = W.tape ∧ w'.output = W.output ∧ W.heap.size ≤ w'.heap.size ∧ ∀ g, g < W.heap.size → g ≠ d → (∀ k, (V k).ownBlock ≠ some g) → mo ≠ some g → w'.heap[g]? = W.heap[g]?
/-- the second loop: the tails of the names that were seen -/
structure Tl (W : World) (R : List Ro) (T : List UInt8 → Td) (F : List UInt8 → List Mk) (B tb : Nat) (ss : List (List UInt8)) (wr : World) : Prop where
  at' : ∃ D P V, TLAt wr B tb ss.length D P V ∧ (∀ k, P k ≠ none ↔ k ∈ ss) ∧ ∀ k st Rk, P k = some (st, Rk) → st ≤ (F k).length ∧ Ser (T k ++ tol R k) ((F k).take st ++ Rk) ∧ fitT (T k ++ tol R k)
theorem nodup_len {α : Type} [DecidableEq α] : ∀ (l m : List α), l.Nodup → (∀ x ∈ l, x ∈ m) → l.length ≤ m.length
  | [], _, _, _ => by simp
  | x :: l, m, hn, hs => by
    rw [List.nodup_cons] at hn
    have hx := hs x (List.mem_cons_self ..)
    have h1 := nodup_len l (m.erase x) hn.2 (fun y hy => (List.mem_erase_of_ne (fun e => hn.1 (by rw [← e]; exact hy))).2 (hs y (List.mem_cons_of_mem _ hy)))
    have h2 := List.length_erase_of_mem hx
    have h3 := List.length_pos_of_mem hx
    simp only [List.length_cons]
    omega
/-- the third loop: the lists of the names that came are written -/
structure L3 (W wr : World) (B d n : Nat) (mo : Option Nat) (F : List UInt8 → List Mk) (V : List UInt8 → Value) (P : List UInt8 → Option (Nat × List Mk)) (Vt : List UInt8 → Value) (tb : Nat) (ss : List (List UInt8)) : Prop where
  view : ∃ mo' F' V', mo' ≠ some tb ∧ DvAt wr B d (n + ss.length) mo' F' V' ∧ (∀ k st Rk, k ∈ ss → P k = some (st, Rk) → F' k = (F k).take st ++ Rk) ∧ (∀ k, k ∉ ss → F' k = F k ∧ V' k = V k) ∧ (∀ k k', P k' ≠ none → k' ∉ ss → ∀ g, (Vt k').ownBlock = some g → (V' k).ownBlock ≠ some g) ∧ (mo' = mo ∨ ∃ b, mo' = some b ∧ W.heap.size ≤ b) ∧ ∀ k g, (V' k).ownBlock = some g → (V k).ownBlock = some g ∨ W.heap.size ≤ g
  frame : wr.os = W.os ∧ wr.tape = W.tape ∧ wr.output = W.output ∧ W.heap.size ≤ wr.heap.size ∧ ∀ g, g < W.heap.size → g ≠ d → (∀ k, (V k).ownBlock ≠ some g) → mo ≠ some g → wr.heap[g]? = W.heap[g]?
theorem row_walk {w w' : World} {B e s n r : Nat} {v : Value} {xs : List Value} {o : Obj} (h : w.ownsRow B e s v n xs) (hr : w.heap[r]? = some o) (ho : o.isCells = false) (hg : w.grownBy w' (some r)) : w'.ownsRow B e s v n xs :=
  row_keep h fun g hgv => hg.block g (row_block h hgv).2.1 (fun e => by
    obtain ⟨_, _, o2, h2, h3⟩ := row_block h hgv
    rw [Option.some.inj e, hr] at h2
    cases h2
    rw [ho] at h3
    cases h3)
theorem ranges_belowX {w w' : World} {R : Value → Option (DataW Value × List MemPlace)} {b r n cnt : Nat} {D : DataW Value} {left : Lit → Bool} (h : w.ranges Tryz.prog 9 R b r n D left cnt) (hb : Below w.heap.size w w') : w'.ranges Tryz.prog 9 R b r n D left cnt := h.kept (grown_of_below hb) (by simp) (by simp)
theorem ser_len {T M : Td} {S S' : List Mk} (h : Ser T S) (h' : Ser (T ++ M) S') : S'.length ≤ S.length + M.length := by
  have hnd : (S'.map (·.1)).Nodup := by
    rw [List.nodup_iff_pairwise_ne, List.pairwise_map]
    exact h'.up.imp (fun {a b} h => by omega)
  have h1 := nodup_len (S'.map (·.1)) (S.map (·.1) ++ M.map (·.1)) hnd (fun x hx => by
    obtain ⟨m, hm, rfl⟩ := List.mem_map.1 hx
    obtain ⟨h1, h2, _⟩ := h'.is m hm
    rw [h1, own_append] at h2
    by_cases hT : own T m.1 = 0
    · have hM : own M m.1 ≠ 0 := fun e => h2 (by omega)
      refine List.mem_append_right _ ?_
      by_cases hin : m.1 ∈ M.map (·.1)
      · exact hin
      · exact absurd (own_none fun r hr e => hin (List.mem_map.2 ⟨r, hr, e⟩)) hM
    · obtain ⟨m2, hm2, e⟩ := h.all m.1 hT
      exact List.mem_append_left _ (List.mem_map.2 ⟨m2, hm2, e⟩))
  rw [List.length_append, List.length_map, List.length_map, List.length_map] at h1
  exact h1
theorem DvAt.drew {w : World} {B d n : Nat} {mo : Option Nat} {F : List UInt8 → List Mk} {V : List UInt8 → Value} (h : DvAt w B d n mo F V) : DvAt w.drew B d n mo F V := by
  refine ⟨h.1, h.2.1, ?_⟩
  rcases h.2.2 with h1 | ⟨b, D, e, hb', hA⟩
  · exact .inl h1
  · exact .inr ⟨b, D, e, hb', hA.drew⟩
theorem DvAt.walk {w w' : World} {B d n r : Nat} {mo : Option Nat} {F : List UInt8 → List Mk} {V : List UInt8 → Value} {o : Obj} (h : DvAt w B d n mo F V) (hB : B ≤ w.heap.size) (hr : w.heap[r]? = some o) (hc : o.isCells = false) (hm : ∀ es clock, o ≠ .map es clock) (hg : w.grownBy w' (some r)) : DvAt w' B d n mo F V := by
  have hdr : d ≠ r := fun e => by
    have := h.1
    rw [e, hr] at this
    cases this
    cases hc
  refine ⟨(hg.block d (Nat.lt_of_lt_of_le h.2.1 hB) (fun e => hdr (Option.some.inj e))).trans h.1, h.2.1, ?_⟩
  rcases h.2.2 with h1 | ⟨b, D, e, hb', hA⟩
  · exact .inl h1
  · have hbr : some b ≠ some r := fun e => by
      obtain ⟨es, clock, hb, _⟩ := hA.map
      rw [Option.some.inj e, hr] at hb
      exact hm es clock (Option.some.inj hb)
    exact .inr ⟨b, D, e, hb', ⟨hA.map.kept hg hbr, hA.val, hA.key, (fun k => row_walk (hA.row k) hr hc hg), hA.nil, hA.apart⟩⟩
set_option maxRecDepth 100000 in
set_option maxHeartbeats 8000000 in
theorem apply_any {W : World} {B d n : Nat} {mo : Option Nat} {T : List UInt8 → Td} {F : List UInt8 → List Mk} {V : List UInt8 → Value} (hV : Dv W B d n mo T F V) (hB : B ≤ W.heap.size) {p : Option Addr} {N cR : Nat} {R : List Ro} (hN : R.length = N) (hN2 : N ≤ 8388608) (hR : Lies kR W p R) (hacc : ∀ r ∈ R, r.acc.size < 4611686018427387904) (hamt : ∀ r ∈ R, -9223372036854775808 ≤ r.amt ∧ r.amt ≤ 9223372036854775807) (hFl : ∀ k, (F k).length ≤ 137438953472) (hnn : n ≤ 1099511627776) :
    Calls Tryz.prog 16 #[.pointer (some ⟨d, 0, none⟩), .slice p N cR] W fun e w' => Refused R T W e w' ∨ Taken R T W B d n mo V e w' := by
  have HV := hide hV; have HN := hide hN; have HR := hide hR; have HA := hide hacc; have HM := hide hamt; have HFl := hide hFl
  clear hV hN hR hacc hamt hFl
  go_enter Tryz.func16, Tryz.ntmps16
  go_wp2_with fail
  go_loopw [16] (fun v wr => ∃ (j : Nat), v = .int .i64 j ∧ j ≤ N ∧ Hid ((∀ r ∈ R.take j, okR r) ∧ Below W.heap.size W wr)) (fun v _ => N - (intOf v).toNat)
  case atStart => exact ⟨0, rfl, by omega, (fun r h => by simp at h), Below.refl _ _⟩
  case round =>
    obtain ⟨j, rfl, hj, hrel⟩ := hrel
    by_cases hlt : j < N
    · obtain ⟨hok, hB1⟩ := unhide hrel
      have hjR : j < R.length := by rw [unhide HN]; exact hlt
      obtain ⟨q, o, rfl, hq, hcell⟩ := (unhide HR).2 j hjR
      obtain ⟨r, hr⟩ : ∃ r, r = R[j] := ⟨_, rfl⟩
      rw [← hr] at hcell
      have hrm : r ∈ R := by rw [hr]; exact List.getElem_mem hjR
      have hld := run_ld24 (w := wr) (b := q) (o := o + j * 9) (r := r) (fun i v hv => (hB1.cell (p := ⟨q, o + j * 9 + i, none⟩) hq).trans (hcell i v hv))
      obtain ⟨A, hA⟩ : ∃ A, A = Obj.cells #[.int .i64 r.i0, .int .i64 r.i1, .int .i64 r.day, .int .i64 r.i3, .string r.s4, .string r.acc, .int .i64 r.amt, .string r.s7, .string r.s8] 74 := ⟨_, rfl⟩
      have hld2 := run_ld24 (w := wr.alloc A) (b := wr.heap.size) (o := 0) (r := r) (fun i v hv => by
        rw [hA, World.cell?_alloc_mark, Nat.zero_add]
        simpa [Ro.vals] using hv)
      have dG := hide (good_any r (unhide HA r hrm) (unhide HM r hrm).1 (wr.alloc A))
      have hbA : Below W.heap.size W (wr.alloc A) := hB1.alloc hB1.size A
      have et : R.take (j + 1) = R.take j ++ [r] := by rw [List.take_succ_eq_append_getElem hjR, ← hr]
      have HOK := hide hok; have HBA := hide hbA; have HET := hide et; have HRM := hide hrm
      clear hok hB1 hcell hr hrm hbA et hrel hjR
      subst hA
      go_wp2_with fail
      refine (unhide dG).mono ?_
      rintro e w1 ⟨⟨b, rfl, hb⟩, hb1⟩
      have HB1 := hide ((unhide HBA).trans (hb1.mono (unhide HBA).size)); have HB := hide hb
      clear hb hb1 dG
      cases b
      · have HF : Hid (Refused R T W (.returned (.int .i64 1)) w1 ∨ Taken R T W B d n mo V (.returned (.int .i64 1)) w1) := .inl ⟨.inl ⟨(fun h => by have := (unhide HB).2 (h r (unhide HRM)); cases this), rfl⟩, unhide HB1⟩
        go_wp2_with fail
        go_ret
        exact unhide HF
      · have HF : Hid ((∀ r ∈ R.take (j + 1), okR r) ∧ Below W.heap.size W w1) := ⟨fun z hz => by
          rw [unhide HET] at hz
          rcases List.mem_append.1 hz with hz | hz
          · exact unhide HOK z hz
          · rw [List.mem_singleton] at hz
            subst hz
            exact (unhide HB).1 rfl, unhide HB1⟩
        go_wp2_with fail
        refine ⟨⟨j + 1, by simp, by omega, unhide HF⟩, by simp [intOf]; omega⟩
    · have hjN : j = N := by omega
      subst hjN
      obtain ⟨hok, hB1⟩ := unhide hrel
      obtain ⟨wo, hwo⟩ : ∃ wo, wo = wr := ⟨_, rfl⟩
      subst hwo
      rw [List.take_of_length_le (by rw [unhide HN]; omega)] at hok
      have hmk := fun W => run_makeMap (P := Tryz.prog) 91 W
      obtain ⟨w2, hw2⟩ : ∃ w2, w2 = wo.alloc (.map #[] 0) := ⟨_, rfl⟩
      have hb2 : Below wo.heap.size wo w2 := by rw [hw2]; exact bal (Below.refl _ _) _
      have hz2 : w2.heap.size = wo.heap.size + 1 := by rw [hw2]; simp
      have hT2 := TLAt.made wo (wo.heap.size + 1)
      rw [← hw2] at hT2
      have hBW2 : Below W.heap.size W w2 := hB1.trans (hb2.mono hB1.size)
      have dBy := hide (by_any w2 p j cR R (unhide HN) hN2 ((unhide HR).below hBW2) (fun r hr => by have := unhide HA r hr; unfold maxLen; omega))
      have HBo := hide hB1; have HOK := hide hok; have HT2 := hide hT2; have HBW2 := hide hBW2; have HZ2 := hide hz2
      clear hok hB1 hrel hlt hb2 hT2 hBW2
      rw [hz2] at dBy
      clear hz2
      subst hw2
      go_wp2_with fail
      refine (unhide dBy).mono ?_
      rintro e w3 ⟨rfl, hby⟩
      have HBY := hide hby
      clear hby dBy
      obtain ⟨D, V2, hMS, hb3, hz3⟩ := unhide HBY
      have hMS' : MSAt kT w3 (wo.heap.size + 1 + 1) (wo.heap.size + 1) j D (tol R) V2 := by
        have e := unhide HZ2
        rw [e, unhide HN] at hMS
        exact hMS
      have hB3 : Below W.heap.size W w3 := (unhide HBW2).trans (hb3.mono (unhide HBW2).size)
      have hT3 := (unhide HT2).below hb3
      have hmx : Hid (w3.ownsMap Tryz.prog 9 sliceElem (wo.heap.size + 1) j D) := hMS'.map
      have hz3' : wo.heap.size + 1 + 1 ≤ w3.heap.size := by have e := unhide HZ2; omega
      have HMS := hide hMS'; have HB3 := hide hB3; have HT3 := hide hT3; have HZ3 := hide hz3'
      clear hMS hMS' hb3 hz3 hB3 hT3 hz3' HBY HT2
      go_wp2_with (at_range; refine wpList_range_own _ rfl _ 92 rfl 9 94 (string_keyed Tryz.underlying9) Tryz.underlying92 sliceElem (wo.heap.size + 1) j _ rfl (unhide hmx) ?_; intro w4 hrg0 hg0 hs0)
      go_frame
      have hb34 : Below w3.heap.size w3 w4 := below_of_grown hg0
      have HB4 := hide ((unhide HB3).trans (hb34.mono (unhide HB3).size))
      have HT4 := hide ((unhide HT3).below hb34)
      have HMS4 := hide ((unhide HMS).below hb34)
      clear hg0 hb34
      go_loopw [11] (fun _ wr => ∃ (left : Lit → Bool) (cnt : Nat) (ss : List (List UInt8)), wr.ranges Tryz.prog 9 sliceElem (wo.heap.size + 1) w3.heap.size j D left cnt ∧ Hid (Collected D left ss) ∧ Hid (∀ k, tol R k ≠ [] → wr.ownsRow (wo.heap.size + 1 + 1) 181 2 (V2 k) (tol R k).length (kT.flat (tol R k))) ∧ Hid (Tl W R T F (wo.heap.size + 1) wo.heap.size ss wr) ∧ Hid (Below W.heap.size W wr)) (fun _ wr => wr.rangeLeft (wo.heap.size + 1) w3.heap.size)
      case atStart =>
        refine ⟨_, _, [], hrg0, Collected.start _, (fun k _ => (unhide HMS4).row k), ⟨⟨_, _, _, unhide HT4, (fun k => by simp), (fun k st Rk h => by cases h)⟩⟩, unhide HB4⟩
      case round =>
        obtain ⟨left, cnt, ss, hrg, hC, hTold, hTl, hb⟩ := hrel
        go_wp2_with (at_next; refine wpList_next_ranges _ rfl _ rfl 9 (string_keyed Tryz.underlying9) sliceElem encStr (fun c : Option Addr × Nat × Nat => .slice c.1 c.2.1 c.2.2) (fun key kl hk => by obtain ⟨x, hx, _⟩ := Maps.keyOf_str Tryz.underlying9 hk; exact ⟨x, hx⟩) (fun v y hv => by obtain ⟨p, m, c, h1, _⟩ := sliceElem_inv hv; exact ⟨(p, m, c), h1⟩) (wo.heap.size + 1) w3.heap.size j _ _ _ rfl hrg ?_ ?_)
        · intro hc0 hl0
          obtain ⟨⟨Dt, P, Vt, hTL, hP, hPr⟩⟩ := unhide hTl
          have hmem : ∀ k, k ∈ ss ↔ tol R k ≠ [] := fun k => by rw [(unhide hC).2 k, hl0, ← (unhide HMS).key k]; simp
          have hfit : ∀ k, fitT (T k ++ tol R k) := fun k => by
            by_cases hk : tol R k = []
            · rw [hk, List.append_nil]; exact (unhide HV).fit k
            · have h1 := (hP k).2 ((hmem k).2 hk)
              cases hq : P k with
              | none => exact absurd hq h1
              | some y => exact (hPr k y.1 y.2 hq).2.2
          have hWo : W.heap.size ≤ wo.heap.size := (unhide HBo).size
          have hz3 := unhide HZ3
          have hDv := (unhide HV).at'.below hB (unhide hb)
          obtain ⟨wa, hwa⟩ : ∃ wa, wa = wr := ⟨_, rfl⟩
          subst hwa
          have hmt : Hid (wa.ownsMap Tryz.prog 9 tailElem wo.heap.size ss.length Dt) := hTL.map
          obtain ⟨nt, hnt⟩ : ∃ nt, nt = ss.length := ⟨_, rfl⟩
          rw [← hnt] at hmt
          have HTL := hide hTL; have HP := hide hP; have HPR := hide hPr; have HMEM := hide hmem; have HFIT := hide hfit; have HDV := hide hDv; have HBa := hide (unhide hb); have HWO := hide hWo
          clear hTL hP hPr hmem hfit hDv hrg hrg0 hTold hc0 hl0 hs0 hz3 hWo
          go_wp2_with (at_range; refine wpList_range_own _ rfl _ 91 rfl 9 98 (string_keyed Tryz.underlying9) Tryz.underlying91 tailElem wo.heap.size nt _ rfl (unhide hmt) ?_; intro w4b hrgb hgb hsb)
          go_frame
          have hbb : Below wa.heap.size wa w4b := below_of_grown hgb
          have HTLb := hide ((unhide HTL).below hbb)
          have HBb := hide ((unhide HBa).trans (hbb.mono (unhide HBa).size))
          have hL3 : L3 W w4b B d n mo F V P Vt wo.heap.size [] := by
            have hb := unhide HBb
            refine ⟨⟨mo, F, V, (fun e => by
              rcases (unhide HV).at'.2.2 with ⟨h1, _⟩ | ⟨b, D, h1, _, hA⟩
              · rw [h1] at e; cases e
              · rw [h1] at e
                have h2 := hA.map.lt
                have h3 := Option.some.inj e
                have := unhide HWO
                omega), (unhide HV).at'.below hB hb, (fun k st Rk h => by cases h), (fun k _ => ⟨rfl, rfl⟩), (fun k k' hk' _ g hg e => ?_), .inl rfl, fun k g hg => .inl hg⟩, hb.os, hb.tape, hb.output, hb.size, fun g hg _ _ _ => hb.block g hg⟩
            cases hq : P k' with
            | none => exact hk' hq
            | some y =>
              have h1 := (row_block ((unhide HTLb).row k' y.1 y.2 hq) hg).1
              have h2 := (row_block ((unhide HV).at'.2.2.row k) e).2.1
              have := unhide HWO
              omega
          have HL3 := hide hL3
          clear hgb hbb hL3
          go_loopw [12] (fun _ wr => ∃ (left : Lit → Bool) (cnt : Nat) (ss2 : List (List UInt8)), wr.ranges Tryz.prog 9 tailElem wo.heap.size wa.heap.size nt Dt left cnt ∧ Hid (Collected Dt left ss2) ∧ Hid (∀ k st Rk, P k = some (st, Rk) → left (.string k) = true → wr.ownsRow (wo.heap.size + 1) 187 3 (Vt k) Rk.length (kM.flat Rk)) ∧ Hid (L3 W wr B d n mo F V P Vt wo.heap.size ss2)) (fun _ wr => wr.rangeLeft wo.heap.size wa.heap.size)
          case atStart =>
            exact ⟨_, _, [], hrgb, Collected.start _, (fun k st Rk h _ => (unhide HTLb).row k st Rk h), unhide HL3⟩
          case round =>
            obtain ⟨left2, cnt2, ss2, hrg2, hC2, hTr, hL3⟩ := hrel
            go_wp2_with (at_next; refine wpList_next_ranges _ rfl _ rfl 9 (string_keyed Tryz.underlying9) tailElem encStr (fun c : Int × Option Addr × Nat × Nat => .agg #[.int .i64 c.1, .slice c.2.1 c.2.2.1 c.2.2.2]) (fun key kl hk => by obtain ⟨x, hx, _⟩ := Maps.keyOf_str Tryz.underlying9 hk; exact ⟨x, hx⟩) (fun v y hv => by obtain ⟨st, p, m, c, h1, _⟩ := tailElem_inv hv; exact ⟨(st, p, m, c), h1⟩) wo.heap.size wa.heap.size nt _ _ _ rfl hrg2 ?_ ?_)
            · intro hc0 hl0
              have hm2 : ∀ k, k ∈ ss2 ↔ P k ≠ none := fun k => by rw [(unhide hC2).2 k, hl0, ← (unhide HTLb).key k]; simp
              have hm3 : ∀ k, k ∈ ss2 ↔ tol R k ≠ [] := fun k => by rw [hm2, unhide HP k, unhide HMEM k]
              obtain ⟨⟨mo', F', V', _, hD', h1, h2, _, hnm1, hnv1⟩, hfr⟩ := unhide hL3
              have hlen2 : ss2.length ≤ R.length := by
                have h5 := nodup_len ss2 (R.map fun r => r.acc.data.toList) (unhide hC2).1 (fun k hk => by
                  obtain ⟨y, hy⟩ := List.exists_mem_of_ne_nil _ ((hm3 k).1 hk)
                  obtain ⟨r, hr, e, _⟩ := tol_mem hy
                  exact List.mem_map.2 ⟨r, hr, e⟩)
                rw [List.length_map] at h5
                exact h5
              have HF : Hid (Refused R T W (.returned (.int .i64 0)) wr ∨ Taken R T W B d n mo V (.returned (.int .i64 0)) wr) := .inr ⟨unhide HOK, rfl, ⟨mo', n + ss2.length, F', V', ⟨hD', fun k => by
                by_cases hk : k ∈ ss2
                · cases hq : P k with
                  | none => exact absurd hq ((hm2 k).1 hk)
                  | some y => rw [h1 k y.1 y.2 hk hq]; exact (unhide HPR k y.1 y.2 hq).2.1
                · have hz : tol R k = [] := by
                    by_cases h : tol R k = []
                    · exact h
                    · exact absurd ((hm3 k).2 h) hk
                  rw [hz, List.append_nil, (h2 k hk).1]
                  exact (unhide HV).ser k, unhide HFIT⟩, by omega, hnm1, hnv1⟩, hfr⟩
              clear hm2 hm3 hD' h1 h2 hfr hlen2 hnm1 hnv1
              go_wp2_with fail
              go_ret
              exact unhide HF
            · intro kb st0 pa ma ca kl y1 y2 w5 cnt' hkey hlk hel hat hrg1 hlt1 hg1 hs1 hen
              obtain ⟨x, hx, rfl, hkl⟩ := Maps.keyOf_str Tryz.underlying9 hkey
              have hxk : kb = x := encStr_inj hx
              subst hxk
              have hy1 : y1 = .held (.agg #[.int .i64 st0, .slice pa ma ca]) := by
                obtain ⟨_, _, _, _, _, e⟩ := tailElem_inv hel
                exact congrArg Prod.fst e
              subst hy1
              have hPk : P kb ≠ none := ((unhide HTLb).key kb).1 (Maps.has_true_of_atKey hat)
              obtain ⟨st, Rk, hPs⟩ : ∃ st Rk, P kb = some (st, Rk) := by
                cases hq : P kb with
                | none => exact absurd hq hPk
                | some y => exact ⟨y.1, y.2, rfl⟩
              have hval := (unhide HTLb).val kb st Rk hPs (.held (.slice none 0 0))
              rw [hat] at hval
              injection hval with hval
              simp at hval
              obtain ⟨rfl, hVt⟩ := hval
              have hkn : kb ∉ ss2 := fun h => by
                have := ((unhide hC2).2 kb).1 h
                rw [hlk] at this
                cases this.2
              obtain ⟨iw, hiw, hnc, hnm⟩ : ∃ o, wr.heap[wa.heap.size]? = some o ∧ o.isCells = false ∧ ∀ es clock, o ≠ .map es clock := by
                obtain ⟨_, _, since, seen, c0, _, _, _, _, hr, _⟩ := hrg2
                exact ⟨_, hr, rfl, fun _ _ e => by cases e⟩
              obtain ⟨⟨mo', F', V', hmt', hD', h1, h2, h3, hnm1, hnv1⟩, hf1, hf2, hf3, hf4, hf5⟩ := unhide hL3
              have hBr : B ≤ wr.heap.size := by omega
              have hD5 := hD'.walk hBr hiw hnc hnm hg1
              have hB5 : B ≤ w5.heap.size := by have := hg1.size; omega
              obtain ⟨A, hA⟩ : ∃ A, A = Obj.cells #[.int .i64 (st : Int), .slice pa ma ca] 98 := ⟨_, rfl⟩
              have hbA : Below w5.heap.size w5 (w5.alloc A) := bal (Below.refl _ _) A
              have hD6 := (hD5.below hB5 hbA).drew
              obtain ⟨hFk, hVk⟩ := h2 kb hkn
              have hrowR := row_walk (unhide hTr kb st Rk hPs hlk) hiw hnc hg1
              rw [← hVt] at hrowR
              obtain ⟨hst, hser, _⟩ := unhide HPR kb st Rk hPs
              have hRl := ser_len ((unhide HV).ser kb) hser
              have hFl := unhide HFl kb
              have htl := tol_len R kb
              rw [unhide HN] at htl
              rw [List.length_append] at hRl
              obtain ⟨pR, cR', hvR, hpR0, _⟩ := row_slice hrowR
              have hma : ma = Rk.length := by injection hvR
              have hpR : pa = pR := by injection hvR
              have hcR : ca = cR' := by injection hvR
              have hlR : Lies kM (w5.alloc A).drew pa Rk := (own_lies kM_ok rfl (by rw [← hma]; rw [← hma] at hrowR; exact hrowR)).below (hbA.drew)
              obtain ⟨q, cS, hvS, _, _⟩ := row_slice (hD6.2.2.row kb)
              obtain ⟨m, hm⟩ : ∃ m, (F kb).length = m := ⟨_, rfl⟩
              have hrS := hD6.2.2.row kb
              rw [hvS, hFk, hm] at hrS
              rw [hFk, hm] at hvS
              obtain ⟨s, hs⟩ : ∃ s : ByteArray, s = ⟨kb.toArray⟩ := ⟨_, rfl⟩
              have hse : encStr kb = .string s := by rw [hs]
              have hsl : s.data.toList = kb := by rw [hs]
              have hss : s.size ≤ maxLen := by rw [hs]; simpa [ByteArray.size] using hkl
              have hlk6 := hD6.2.2.look hss
              rw [hsl, hvS] at hlk6
              have hB6 : B ≤ ((w5.alloc A).drew).heap.size := by simp; omega
              have dE := ending_any (R := Rk) (st := st) (cm := ca) (nR := ma) hm hB6 hrS (by omega) (by omega) hma.symm (by omega) (fun h => by rw [hcR]; exact (hpR0 (by rw [← hpR]; exact h)).2) hlR
              have hss2 : ss2.length ≤ 8388608 := by
                have h5 := nodup_len ss2 (R.map fun r => r.acc.data.toList) (unhide hC2).1 (fun k hk => by
                  have h6 := (unhide HMEM k).1 ((unhide HP k).1 (((unhide HTLb).key k).1 (((unhide hC2).2 k).1 hk).1))
                  obtain ⟨y, hy⟩ := List.exists_mem_of_ne_nil _ h6
                  obtain ⟨r, hr, e, _⟩ := tol_mem hy
                  exact List.mem_map.2 ⟨r, hr, e⟩)
                rw [List.length_map, unhide HN] at h5
                omega
              obtain ⟨L, hL⟩ : ∃ L, L = (F kb).take st ++ Rk := ⟨_, rfl⟩
              have hLl : L.length = st + ma := by rw [hL, List.length_append, List.length_take, hma]; omega
              have hz6 : ((w5.alloc A).drew).heap.size = w5.heap.size + 1 := by simp
              have hvb : (Value.slice q m cS).ownBlock = (V' kb).ownBlock := by rw [hvS]
              have hTr5 : ∀ k st Rk, P k = some (st, Rk) → left2 (.string k) = true → w5.ownsRow (wo.heap.size + 1) 187 3 (Vt k) Rk.length (kM.flat Rk) := fun k st Rk hk hl => row_walk (unhide hTr k st Rk hk hl) hiw hnc hg1
              have dP : Calls Tryz.prog 78 #[.slice q m cS, .agg #[.int .i64 (st : Int), .slice pa ma ca]] (w5.alloc A).drew fun e w7 => ∃ p' c', e = .returned (.slice p' (st + ma) c') ∧ Hid (Calls Tryz.prog 77 #[.pointer (some ⟨d, 0, none⟩), .string s, .slice p' (st + ma) c'] w7 fun e w8 => e = .returned (.tuple #[]) ∧ Hid (∃ (left : Lit → Bool) (cnt : Nat) (ss2 : List (List UInt8)), w8.ranges Tryz.prog 9 tailElem wo.heap.size wa.heap.size nt Dt left cnt ∧ cnt < cnt2 ∧ Hid (Collected Dt left ss2) ∧ Hid (∀ k st Rk, P k = some (st, Rk) → left (.string k) = true → w8.ownsRow (wo.heap.size + 1) 187 3 (Vt k) Rk.length (kM.flat Rk)) ∧ Hid (L3 W w8 B d n mo F V P Vt wo.heap.size ss2))) := by
                refine dE.mono ?_
                rintro e w7 ⟨p', c', rfl, ho7, hz7, ho, ht, hu, hk7, hloc⟩
                rw [← hma] at ho7 hloc ⊢
                refine ⟨p', c', rfl, ?_⟩
                have hdB := hD6.2.1
                have hnil : ∀ k, F' k = [] → V' k = .slice none 0 0 := fun k hk => by
                  rcases hD6.2.2 with ⟨_, _, h⟩ | ⟨_, _, _, _, hA'⟩
                  · exact h k
                  · exact hA'.nil k hk
                have hne' : ∀ k g, (V' k).ownBlock = some g → F' k ≠ [] := fun k g hg e => by rw [hnil k e] at hg; cases hg
                have hap' : ∀ k, k ≠ kb → ∀ g, (V' k).ownBlock = some g → (Value.slice q m cS).ownBlock ≠ some g := fun k hk g hg e => by
                  rw [hvb] at e
                  rcases hD6.2.2 with ⟨_, h, _⟩ | ⟨_, _, _, _, hA'⟩
                  · exact hne' k g hg (h k)
                  · exact hA'.apart k kb hk (hne' k g hg) (hne' kb g e) (by rw [hg, e])
                have hd7 : w7.heap[d]? = some (.cells #[.map mo'] 80 (0, 0)) := (hk7 d (by omega) (fun e => by have := (row_block hrS e).1; omega)).trans hD6.1
                have hmb7 : ∀ b, mo' = some b → w7.heap[b]? = ((w5.alloc A).drew).heap[b]? := fun b hb => by
                  rcases hD6.2.2 with ⟨h, _⟩ | ⟨b', D', e, _, hA'⟩
                  · rw [h] at hb; cases hb
                  · rw [e] at hb
                    have hb2 := Option.some.inj hb
                    subst hb2
                    exact hk7 b' hA'.map.lt (fun e => ne_map hA'.map hrS e rfl)
                have hrw7 : ∀ k, k ≠ s.data.toList → w7.ownsRow B 187 3 (V' k) (F' k).length (kM.flat (F' k)) := fun k hk => by
                  rw [hsl] at hk
                  exact row_keep (hD6.2.2.row k) fun g hg => hk7 g (row_block (hD6.2.2.row k) hg).2.1 (hap' k hk g hg)
                have hloc' : ∀ g, (Value.slice p' (st + ma) c').ownBlock = some g → (Value.slice q m cS).ownBlock = some g ∨ w5.heap.size + 1 ≤ g := fun g hg => by
                  rcases hloc with h | ⟨g2, h, h4⟩
                  · exact .inl (by rw [← h]; exact hg)
                  · rw [h] at hg
                    have := Option.some.inj hg
                    exact .inr (by omega)
                refine (put_any0 (L := L) hD6 hd7 hmb7 (by omega) (by unfold maxLen; omega) hss hLl (by omega) (by rw [hL]; exact ho7) hrw7 (fun k hk hF e => ?_)).mono ?_
                · rw [hsl] at hk
                  obtain ⟨g, hg⟩ := row_some (hD6.2.2.row k) (List.length_pos_iff.2 hF)
                  rcases hloc' g (by rw [← e]; exact hg) with h | h
                  · exact hap' k hk g hg h
                  · have := (row_block (hD6.2.2.row k) hg).2.1
                    omega
                · rintro e w8 ⟨rfl, mo8, hmo8, hD8, hz8, ho8, ht8, hu8, hk8⟩
                  refine ⟨rfl, ?_⟩
                  rw [hsl] at hD8
                  have hWa := (unhide HBa).size
                  have hWo := unhide HWO
                  have hzr := hg1.size
                  have hrl := hrg2.lt
                  have hrg6 := ranges_belowX hrg1 (hbA.drew)
                  obtain ⟨es, clock, since, seen, c0, hb6, x1, x2, x3, hr6, x4⟩ := hrg6
                  have htb6 : wo.heap.size < ((w5.alloc A).drew).heap.size := (Array.getElem?_eq_some_iff.1 hb6).1
                  have hr6l : wa.heap.size < ((w5.alloc A).drew).heap.size := (Array.getElem?_eq_some_iff.1 hr6).1
                  have hmap7 : ∀ b, mo' = some b → ∃ es clock, w7.heap[b]? = some (.map es clock) := fun b hb => by
                    rcases hD6.2.2 with ⟨h, _⟩ | ⟨b', D', e, _, hA'⟩
                    · rw [h] at hb; cases hb
                    · obtain ⟨es', clock', hb', _⟩ := hA'.map
                      have e2 : b' = b := by rw [e] at hb; exact Option.some.inj hb
                      subst e2
                      exact ⟨es', clock', (hmb7 b' e).trans hb'⟩
                  have hb7 : w7.heap[wo.heap.size]? = some (.map es clock) := (hk7 _ htb6 (fun e => by
                    obtain ⟨_, _, o, ho', hc⟩ := row_block hrS e
                    rw [hb6] at ho'; cases ho'; cases hc)).trans hb6
                  have hr7 := (hk7 _ hr6l (fun e => by
                    obtain ⟨_, _, o, ho', hc⟩ := row_block hrS e
                    rw [hr6] at ho'; cases ho'; cases hc)).trans hr6
                  have hb8 : w8.heap[wo.heap.size]? = some (.map es clock) := (hk8 _ (by omega) (fun e => by rw [e, hd7] at hb7; cases hb7) hmt').trans hb7
                  have hr8 := (hk8 _ (by omega) (fun e => by rw [e, hd7] at hr7; cases hr7) (fun e => by
                    obtain ⟨es', clock', h⟩ := hmap7 _ e
                    rw [hr7] at h; cases h)).trans hr7
                  have hlf2 : ∀ k, P k ≠ none → k ∉ ss2 → left2 (.string k) = true := fun k hk hn => by
                    cases hq : left2 (.string k) with
                    | true => rfl
                    | false => exact absurd (((unhide hC2).2 k).2 ⟨((unhide HTLb).key k).2 hk, hq⟩) hn
                  have hrow8 : ∀ k st' Rk', P k = some (st', Rk') → left2 (.string k) = true → k ≠ kb → w8.ownsRow (wo.heap.size + 1) 187 3 (Vt k) Rk'.length (kM.flat Rk') := fun k st' Rk' hk hl hkk => by
                    have h5 := hTr5 k st' Rk' hk hl
                    have h6 : ((w5.alloc A).drew).ownsRow (wo.heap.size + 1) 187 3 (Vt k) Rk'.length (kM.flat Rk') := row_keep h5 fun g hg => hbA.drew.block g (row_block h5 hg).2.1
                    have hns : k ∉ ss2 := fun h => by
                      have := ((unhide hC2).2 k).1 h
                      rw [hl] at this
                      cases this.2
                    have h7 : w7.ownsRow (wo.heap.size + 1) 187 3 (Vt k) Rk'.length (kM.flat Rk') := row_keep h6 fun g hg => hk7 g (row_block h6 hg).2.1 (fun e => h3 kb k (by rw [hk]; simp) hns g hg (by rw [← hvb]; exact e))
                    refine row_keep h7 fun g hg => hk8 g (row_block h7 hg).2.1 (fun e => by have := (row_block h7 hg).1; omega) (fun e => ?_)
                    obtain ⟨es', clock', h⟩ := hmap7 _ e
                    obtain ⟨_, _, o, ho', hc⟩ := row_block h7 hg
                    rw [h] at ho'; cases ho'; cases hc
                  refine ⟨_, cnt', ss2 ++ [kb], ⟨es, clock, since, seen, c0, hb8, x1, by rw [hnt]; exact x2, x3, hr8, x4⟩, hlt1, (unhide hC2).step hlk hat, fun k st' Rk' hk hl => ?_, ?_⟩
                  · simp only [Bool.and_eq_true] at hl
                    refine hrow8 k st' Rk' hk hl.1 (fun e => ?_)
                    have h4 := hl.2
                    rw [e] at h4
                    simp [Lit.sameKey] at h4
                  · refine ⟨⟨mo8, _, _, ?_, by rw [List.length_append, List.length_singleton, ← Nat.add_assoc]; exact hD8, fun k st' Rk' hk hP' => ?_, fun k hk => ?_, fun k k' hP' hk' g hg => ?_, ?_, fun k g hg => ?_⟩, ?_⟩
                    · rcases hmo8 with e | e
                      · rw [e]; exact hmt'
                      · rw [e]; intro e2; have := Option.some.inj e2; omega
                    · by_cases e : k = kb
                      · subst e
                        rw [hPs] at hP'
                        cases hP'
                        simp only
                        exact hL
                      · simp only [if_neg e]
                        rcases List.mem_append.1 hk with hk | hk
                        · exact h1 k st' Rk' hk hP'
                        · rw [List.mem_singleton] at hk; exact absurd hk e
                    · have e : k ≠ kb := fun e => hk (by rw [e]; simp)
                      simp only [if_neg e]
                      exact h2 k (fun h => hk (List.mem_append_left _ h))
                    · have hn2 : k' ∉ ss2 := fun h => hk' (List.mem_append_left _ h)
                      by_cases e : k = kb
                      · simp only [if_pos e]
                        intro he
                        by_cases hL0 : L = []
                        · rw [if_pos hL0] at he; cases he
                        · rw [if_neg hL0] at he
                          rcases hloc' g he with h | h
                          · exact h3 kb k' hP' hn2 g hg (by rw [← hvb]; exact h)
                          · cases hq : P k' with
                            | none => exact hP' hq
                            | some y =>
                              have := (row_block (hTr5 k' y.1 y.2 hq (hlf2 k' hP' hn2)) hg).2.1
                              omega
                      · simp only [if_neg e]
                        exact h3 k k' hP' hn2 g hg
                    · rcases hmo8 with e | e
                      · rw [e]; exact hnm1
                      · exact .inr ⟨_, e, by omega⟩
                    · by_cases e : k = kb
                      · simp only [if_pos e] at hg
                        by_cases hL0 : L = []
                        · rw [if_pos hL0] at hg; cases hg
                        · rw [if_neg hL0] at hg
                          rcases hloc' g hg with h | h
                          · rw [hvb] at h
                            rw [e]
                            exact hnv1 kb g h
                          · exact .inr (by omega)
                      · simp only [if_neg e] at hg
                        exact hnv1 k g hg
                    · refine ⟨ho8.trans (ho.trans (hg1.os.trans hf1)), ht8.trans (ht.trans (hg1.tape.trans hf2)), hu8.trans (hu.trans (hg1.output.trans hf3)), by omega, fun g hgW hgd hgV hgc => ?_⟩
                      have e5 : w5.heap[g]? = W.heap[g]? := (hg1.block g (by omega) (fun e => by have := Option.some.inj e; omega)).trans (hf5 g hgW hgd hgV hgc)
                      have e6 : ((w5.alloc A).drew).heap[g]? = W.heap[g]? := (hbA.drew.block g (by omega)).trans e5
                      have e7 : w7.heap[g]? = W.heap[g]? := (hk7 g (by omega) (fun e => hgV kb (by rw [← hVk, ← hvb]; exact e))).trans e6
                      refine (hk8 g (by omega) hgd (fun e => ?_)).trans e7
                      rcases hnm1 with h | ⟨b, h, hbW⟩
                      · exact hgc (by rw [← h]; exact e)
                      · rw [h] at e
                        have := Option.some.inj e
                        omega
              have hcd := hD6.c0.1
              have DP := hide dP; have HC2' := hide (unhide hC2)
              have hlf : Hid (wr.rangeLeft wo.heap.size wa.heap.size = cnt2) := hrg2.left_eq
              rw [hse] at hen ⊢
              clear hmt' dP dE hD' hD5 hD6 h1 h2 h3 hnm1 hnv1 hf1 hf2 hf3 hf4 hf5 hiw hnc hnm hrowR hlR hrS hvR hpR0 hpR hcR hRl htl hFl hser hst hTr5 hvb hL hLl hss2 hbA hVt hPs hPk hkn hg1 hs1 hrg1 hrg2 hat hel hkey hx hlk hlt1 hvS hs hsl hFk hVk hm hma hz6
              subst hA
              go_wp2_with fail
              go_region_with (first | (go_at_call 78; refine (unhide DP).mono ?_; rintro e w7 ⟨p', c', rfl, hcall⟩) | (go_at_call 77; refine (unhide hcall).mono ?_; rintro e w8 ⟨rfl, hfin⟩))
              all_goals go_wp2_with fail
              all_goals
                obtain ⟨left3, cnt3, ss3, a1, a2, a3, a4, a5⟩ := unhide hfin
                exact ⟨⟨left3, cnt3, ss3, a1, a3, a4, a5⟩, by rw [a1.left_eq, unhide hlf]; exact a2⟩
        · intro kb pa ma ca kl y1 y2 w5 cnt' hkey hlk hel hat hrg1 hlt1 hg1 hs1 hen
          obtain ⟨x, hx, rfl, hkl⟩ := Maps.keyOf_str Tryz.underlying9 hkey
          have hxk : kb = x := encStr_inj hx
          subst hxk
          have hy1 : y1 = .held (.slice pa ma ca) := by
            obtain ⟨_, _, _, _, e⟩ := sliceElem_inv hel
            exact congrArg Prod.fst e
          subst hy1
          have hV2 : V2 kb = .slice pa ma ca := by
            have h1 := (unhide HMS).val kb
            rw [hat] at h1
            injection h1 with h1
            exact h1.symm
          have hne : tol R kb ≠ [] := ((unhide HMS).key kb).1 (Maps.has_true_of_atKey hat)
          obtain ⟨iw, hiw, hiww⟩ := hrg.iter_walk
          have hnc := Obj.not_cells_of_walk hiww
          have hz3 := unhide HZ3
          have hWo : W.heap.size ≤ wo.heap.size := (unhide HBo).size
          have hTold5 : ∀ k, tol R k ≠ [] → w5.ownsRow (wo.heap.size + 1 + 1) 181 2 (V2 k) (tol R k).length (kT.flat (tol R k)) := fun k hk => row_walk (unhide hTold k hk) hiw hnc hg1
          have hTl5 : Tl W R T F (wo.heap.size + 1) wo.heap.size ss w5 := by
            obtain ⟨⟨D1, P1, V1, h1, h2, h3⟩⟩ := unhide hTl
            refine ⟨⟨D1, P1, V1, ⟨h1.map.kept hg1 (fun e => by have := Option.some.inj e; omega), h1.val, h1.key, (fun k st Rk hk => row_walk (h1.row k st Rk hk) hiw hnc hg1), h1.apart⟩, h2, h3⟩⟩
          have hb5 : Below W.heap.size W w5 := (unhide hb).trans ⟨hg1.os, hg1.tape, hg1.output, hg1.size, fun k hk => hg1.block k (Nat.lt_of_lt_of_le hk (unhide hb).size) (fun e => by have := Option.some.inj e; omega)⟩
          have hDv := (unhide HV).at'.below hB hb5
          obtain ⟨s, hs⟩ : ∃ s : ByteArray, s = ⟨kb.toArray⟩ := ⟨_, rfl⟩
          have hse : encStr kb = .string s := by rw [hs]
          have hsl : s.data.toList = kb := by rw [hs]
          have hss : s.size ≤ maxLen := by rw [hs]; simpa [ByteArray.size] using hkl
          have hlk5 := hDv.2.2.look hss
          rw [hsl] at hlk5
          have hcd := hDv.c0.1
          obtain ⟨q, cS, hvS, hq0, hq1⟩ := row_slice (hDv.2.2.row kb)
          obtain ⟨m, hm⟩ : ∃ m, m = (F kb).length := ⟨_, rfl⟩
          rw [hvS] at hlk5
          have hlS : Lies kM w5 q (F kb) := own_lies kM_ok rfl (by rw [← hvS]; exact hDv.2.2.row kb)
          have hSc : (F kb).length ≤ cS := by
            cases q with
            | none => have := (hq0 rfl).1; omega
            | some a => exact (hq1 a rfl).2.2.2
          have hrT := hTold5 kb hne
          rw [hV2] at hrT
          obtain ⟨pT, cT, hvT, _, _⟩ := row_slice hrT
          obtain ⟨nM, hnM⟩ : ∃ nM, nM = (tol R kb).length := ⟨_, rfl⟩
          have hnM1 : 0 < nM := by rw [hnM]; exact List.length_pos_iff.2 hne
          rw [← hnM] at hvT hrT
          have hma : ma = nM := by injection hvT
          subst hma
          have hlT : Lies kT w5 pa (tol R kb) := own_lies kT_ok hnM.symm hrT
          obtain ⟨bT, oT, epa, hj1, hj2⟩ := hlT.2 0 (by omega)
          subst epa
          clear hj1 hj2
          have hnMl : ma ≤ 137438953472 := by
            have := tol_len R kb
            rw [unhide HN] at this
            omega
          have dW := hide (with_any (cM := ca) ((unhide HV).ser kb) ((unhide HV).fit kb) hlS (fun h => (hq0 h).2) hSc (unhide HFl kb) hnM.symm hnM1 hnMl hlT (fun x hx => by
            obtain ⟨r, hr, _, rfl⟩ := tol_mem hx
            exact ⟨(unhide HOK r hr).2.2.2, (unhide HM r hr).2⟩))
          rw [← hm] at dW hlk5
          have hnew : kb ∉ ss := fun h => by
            have := ((unhide hC).2 kb).1 h
            rw [hlk] at this
            cases this.2
          rw [hse] at hen ⊢
          have HTold5 := hide hTold5; have HTl5 := hide hTl5; have HB5 := hide hb5; have HRG := hide hrg; have HRG1 := hide hrg1; have HNEW := hide hnew; have HLK := hide hlk; have HAT := hide hat; have HSL := hide hsl; have HSS := hide hss; have HLT := hide hlt1; have HMM := hide hm
          clear hTold5 hTl5 hb5 hrg hrg1 hnew hlk hat hsl hlt1 hs1 hg1 hiw hnc hiww hlT hrT hvT hlS hDv hvS hq0 hq1 hSc hel hkey hx hV2 hne hs hse hkl hm hnM
          go_wp2_with fail
          refine (unhide dW).mono ?_
          rintro e w6 hO
          rcases hO with ⟨hnf, rfl, hb6⟩ | ⟨hfT, st, Rk, pm, cm, rfl, hst, hser, hrowm, hb6⟩
          · have HF : Hid (Refused R T W (.returned (.int .i64 11)) (w6.alloc (.cells #[.int .i64 0, .slice none 0 0] 98)) ∨ Taken R T W B d n mo V (.returned (.int .i64 11)) (w6.alloc (.cells #[.int .i64 0, .slice none 0 0] 98))) := .inl ⟨.inr ⟨unhide HOK, (fun h => hnf (h kb)), rfl⟩, ((unhide HB5).trans (hb6.mono (unhide HB5).size)).alloc (Nat.le_trans (unhide HB5).size hb6.size) _⟩
            clear hnf hb6 dW
            go_wp2_with fail
            go_ret
            exact unhide HF
          · obtain ⟨nR, hnR⟩ : ∃ nR, nR = Rk.length := ⟨_, rfl⟩
            rw [← hnR] at hrowm ⊢
            obtain ⟨A, hA⟩ : ∃ A, A = Obj.cells #[.int .i64 st, .slice pm nR cm] 98 := ⟨_, rfl⟩
            have hb7 : Below w6.heap.size w6 (w6.alloc A) := bal (Below.refl _ _) A
            have hb57 : Below w5.heap.size w5 (w6.alloc A) := hb6.trans (hb7.mono hb6.size)
            have hrow7 : (w6.alloc A).ownsRow w5.heap.size 187 3 (.slice pm nR cm) nR (kM.flat Rk) := hrowm.alloc A
            obtain ⟨⟨D1, P1, V1, h1, h2, h3⟩⟩ := unhide HTl5
            have h17 := h1.below hb57
            have hz5 : wo.heap.size + 1 ≤ w5.heap.size := by have := (unhide HRG1).lt; have := unhide HZ3; omega
            have hP0 : P1 kb = none := by
              cases hq : P1 kb with
              | none => rfl
              | some y => exact absurd ((h2 kb).1 (by rw [hq]; simp)) (unhide HNEW)
            have hsl8 : ss.length ≤ j := by
              have h5 := nodup_len ss (R.map fun r => r.acc.data.toList) (unhide hC).1 (fun k hk => by
                have h6 := ((unhide HMS).key k).1 (((unhide hC).2 k).1 hk).1
                obtain ⟨y, hy⟩ := List.exists_mem_of_ne_nil _ h6
                obtain ⟨r, hr, e, _⟩ := tol_mem hy
                exact List.mem_map.2 ⟨r, hr, e⟩)
              rw [List.length_map, unhide HN] at h5
              exact h5
            obtain ⟨w8, D8, hrun8, hT8, hg8⟩ := h17.set (s := s) (st := st) (R := Rk) (by unfold maxLen; omega) (unhide HSS) (by rw [unhide HSL]; exact hP0) (by rw [← hnR]; exact row_le hrow7 hz5) (fun k hk g hgk e => by
              cases hq : P1 k with
              | none => exact hk hq
              | some y =>
                have h5 := (row_block (h1.row k y.1 y.2 hq) hgk).2.1
                have h6 := (row_block hrow7 e).1
                omega)
            rw [unhide HSL] at hT8
            have hrg7 := ranges_belowX (unhide HRG1) hb57
            have hz3 := unhide HZ3
            have hrg8 := hrg7.kept hg8 (fun e => by have := Option.some.inj e; omega) (fun e => by have := Option.some.inj e; omega)
            have hTold8 : ∀ k, tol R k ≠ [] → w8.ownsRow (wo.heap.size + 1 + 1) 181 2 (V2 k) (tol R k).length (kT.flat (tol R k)) := fun k hk => by
              have h5 : (w6.alloc A).ownsRow (wo.heap.size + 1 + 1) 181 2 (V2 k) (tol R k).length (kT.flat (tol R k)) := row_keep (unhide HTold5 k hk) fun g hg => hb57.block g (row_block (unhide HTold5 k hk) hg).2.1
              exact row_keep h5 fun g hg => hg8.block g (row_block h5 hg).2.1 (ne_mapT h17.map h5 hg)
            have hTl8 : Tl W R T F (wo.heap.size + 1) wo.heap.size (ss ++ [kb]) w8 := by
              refine ⟨⟨D8, _, _, by rw [List.length_append, List.length_singleton]; exact hT8, fun k => ?_, fun k st' R' hk => ?_⟩⟩
              · by_cases e : k = kb
                · simp [e]
                · simp only [if_neg e]
                  rw [h2 k]
                  simp [e]
              · by_cases e : k = kb
                · simp only [if_pos e] at hk
                  cases hk
                  subst e
                  exact ⟨hst, hser, hfT⟩
                · simp only [if_neg e] at hk
                  exact h3 k st' R' hk
            have hWo : W.heap.size ≤ wo.heap.size := (unhide HBo).size
            have hB8 : Below W.heap.size W w8 := ((unhide HB5).trans (hb57.mono (unhide HB5).size)).trans ⟨hg8.os, hg8.tape, hg8.output, hg8.size, fun k hk => hg8.block k (by have := (unhide HB5).size; have := hb57.size; omega) (fun e => by have := Option.some.inj e; omega)⟩
            have hC8 := (unhide hC).step (unhide HLK) (unhide HAT)
            have hle : w8.rangeLeft (wo.heap.size + 1) w3.heap.size < wr.rangeLeft (wo.heap.size + 1) w3.heap.size := by
              rw [hrg8.left_eq, (unhide HRG).left_eq]
              exact unhide HLT
            have HFIN := hide (show ∃ (left : Lit → Bool) (cnt : Nat) (ss : List (List UInt8)), w8.ranges Tryz.prog 9 sliceElem (wo.heap.size + 1) w3.heap.size j D left cnt ∧ Hid (Collected D left ss) ∧ Hid (∀ k, tol R k ≠ [] → w8.ownsRow (wo.heap.size + 1 + 1) 181 2 (V2 k) (tol R k).length (kT.flat (tol R k))) ∧ Hid (Tl W R T F (wo.heap.size + 1) wo.heap.size ss w8) ∧ Hid (Below W.heap.size W w8) from ⟨_, _, _, hrg8, hC8, hTold8, hTl8, hB8⟩)
            have HLE := hide hle
            clear hT8 hg8 hrg8 hTold8 hTl8 hB8 hC8 hle hrg7 h17 h1 h2 h3 hb57 hb7 hrow7 hrowm hb6 hser hfT hP0 hsl8 dW hz3 hWo hz5 hnR
            subst hA
            go_wp2_with fail
            exact ⟨unhide HFIN, unhide HLE⟩
end Go.Proofs.YtmgnlgobkkfjhaaGreatDoor
