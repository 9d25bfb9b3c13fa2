/- AgedSteps: the law's open (41), and what it tells. -/
import Derived.Test.YtildpgfhahmgmaaDoorNwA
import Derived.Test.YtildpgfhahmgmaaDoorFmN
namespace Go.Proofs.YtildpgfhahmgmaaDoor
open Go Go.Shelf Go.ChangeShapes Go.WideShapes Go.ChangeAt Go.RowKit Go.Maps
set_option linter.unusedVariables false
def IsOpen (M : List Cl) (s : ByteArray) (v : Int) : Prop := (∃ x ∈ M, x.key = s ∧ v = x.amt) ∨ ((∀ x ∈ M, x.key ≠ s) ∧ v = 0)
set_option maxRecDepth 100000 in
set_option maxHeartbeats 4000000 in
theorem open41_any {W : World} {p : Option Addr} {n c : Nat} {M : List Cl} (hn : M.length = n) (hl : n ≤ 1000) (hM : Lies kC W p M) (s : ByteArray) :
    Calls Tryd.prog 41 #[.slice p n c, .string s] W fun e w' => ∃ v, e = .returned (.int .i64 v) ∧ w' = W ∧ IsOpen M s v := by
  have HN := hide hn; have HM := hide hM
  clear hn hM
  go_enter Tryd.func41, Tryd.ntmps41
  go_wp2_with fail
  go_loopw [5] (fun v5 wr => ∃ (j : Nat), v5 = .int .i64 j ∧ j ≤ n ∧ Hid (wr = W ∧ ∀ k (hk : k < M.length), k < j → M[k].key ≠ s)) (fun v5 _ => n - (intOf v5).toNat)
  case atStart => exact ⟨0, rfl, by omega, rfl, fun k hk h => by omega⟩
  case round =>
    obtain ⟨j, rfl, hj, hrel⟩ := hrel
    obtain ⟨hwr, hno⟩ := unhide hrel
    subst hwr
    have HNO := hide hno
    clear hno hrel
    by_cases hlt : j < n
    · have hjl : j < M.length := by rw [unhide HN]; exact hlt
      obtain ⟨b, off, e, hbl, hr⟩ := (unhide HM).2 j hjl
      obtain ⟨x, hx⟩ : ∃ x, x = M[j] := ⟨_, rfl⟩
      rw [← hx] at hr
      have k0 : wr.cell? ⟨b, off + j * 5, none⟩ = some (.string x.key) := by
        have h0 : wr.cell? ⟨b, off + j * 5 + 0, none⟩ = some (.string x.key) := hr 0 _ rfl
        exact h0
      have k4 : wr.cell? ⟨b, off + j * 5 + 4, none⟩ = some (.int .i64 x.amt) := hr 4 _ rfl
      have HX := hide hx
      subst e
      clear hr hbl hx
      by_cases hk : x.key = s
      · have HF : Hid (IsOpen M s x.amt) := .inl ⟨x, by rw [unhide HX]; exact List.getElem_mem hjl, hk, rfl⟩
        rw [hk] at k0
        clear hk
        go_wp2_with fail
        go_ret
        exact ⟨_, rfl, rfl, unhide HF⟩
      · have HNX : Hid (wr = wr ∧ ∀ k (hk : k < M.length), k < j + 1 → M[k].key ≠ s) := ⟨rfl, fun k hk' h => by
          by_cases e : k = j
          · subst e; rw [← unhide HX]; exact hk
          · exact unhide HNO k hk' (by omega)⟩
        have hb : (x.key.toList == s.toList) = false := by
          rw [ByteArray.toList_eq, ByteArray.toList_eq, beq_eq_false_iff_ne]
          intro h
          apply hk
          cases hx : x.key with
          | mk dx => cases hs : s with
            | mk ds => rw [hx, hs] at h; exact congrArg ByteArray.mk (Array.toList_inj.1 h)
        go_wp2_with fail
        exact ⟨⟨j + 1, by simp, by omega, trivial, (unhide HNX).2⟩, by simp [intOf]; omega⟩
    · have HF : Hid (IsOpen M s 0) := .inr ⟨fun x hx => by
        obtain ⟨k, hk, rfl⟩ := List.getElem_of_mem hx
        exact unhide HNO k hk (by have := unhide HN; omega), rfl⟩
      go_wp2_with fail
      go_ret
      exact ⟨_, rfl, rfl, unhide HF⟩
/-- what is open of an invoice -/
def oS (A : List Al) (c : Cl) (t : Int) : Int := (shr c (ptsOf A c.key.data.toList) t).2
def sumDay (P : Pts) (d : Int) : Int := P.foldr (fun p x => (if p.1 = d then p.2 else 0) + x) 0
theorem sumTo_step (P : Pts) (t : Int) : sumTo P (t + 1) = sumTo P t + sumDay P (t + 1) := by
  induction P with
  | nil => rfl
  | cons p P ih =>
    show (if p.1 ≤ t + 1 then p.2 else 0) + sumTo P (t + 1) = (if p.1 ≤ t then p.2 else 0) + sumTo P t + ((if p.1 = t + 1 then p.2 else 0) + sumDay P (t + 1))
    rw [ih]
    by_cases h1 : p.1 ≤ t
    · rw [if_pos h1, if_pos (by omega), if_neg (by omega)]; omega
    · by_cases h2 : p.1 = t + 1
      · rw [if_neg h1, if_pos h2, if_pos (by omega)]; omega
      · rw [if_neg h1, if_neg h2, if_neg (by omega)]; omega
theorem sumTo_zero {P : Pts} {t : Int} (h : ∀ p ∈ P, t < p.1) : sumTo P t = 0 := by
  induction P with
  | nil => rfl
  | cons p P ih =>
    show (if p.1 ≤ t then p.2 else 0) + sumTo P t = 0
    rw [ih (fun q hq => h q (List.mem_cons_of_mem _ hq)), if_neg (by have := h p (List.mem_cons_self ..); omega)]
    rfl
theorem oS_step {A : List Al} {c : Cl} (t : Int) (hp : ∀ p ∈ ptsOf A c.key.data.toList, c.day ≤ p.1) : oS A c (t + 1) = oS A c t + (if c.day = t + 1 then c.amt else 0) - sumDay (ptsOf A c.key.data.toList) (t + 1) := by
  unfold oS shr
  have hs := sumTo_step (ptsOf A c.key.data.toList) t
  generalize ptsOf A c.key.data.toList = P at *
  by_cases h1 : t + 1 < c.day
  · have z1 := sumTo_zero (P := P) (t := t + 1) (fun p h => by have := hp p h; omega)
    have z2 := sumTo_zero (P := P) (t := t) (fun p h => by have := hp p h; omega)
    rw [if_pos h1, if_pos (by omega), if_neg (by omega)]
    show (0 : Int) = 0 + 0 - _
    omega
  · by_cases h2 : c.day = t + 1
    · have z2 := sumTo_zero (P := P) (t := t) (fun p h => by have := hp p h; omega)
      rw [if_neg h1, if_pos (by omega), if_pos h2]
      show c.amt - sumTo P (t + 1) = 0 + c.amt - _
      omega
    · rw [if_neg h1, if_neg (by omega), if_neg h2]
      show c.amt - sumTo P (t + 1) = c.amt - sumTo P t + 0 - _
      omega
theorem Good.pts {C : List Cl} {A : List Al} {g : Int} (h : Good C A g) {c : Cl} (hc : c ∈ C) : ∀ p ∈ ptsOf A c.key.data.toList, 1 ≤ p.2 ∧ c.day ≤ p.1 := fun p hp => by
  unfold ptsOf at hp
  obtain ⟨a, ha, rfl⟩ := List.mem_map.1 hp
  obtain ⟨ha, hi⟩ := List.mem_filter.1 ha
  obtain ⟨h1, _, c', hc', e, hd⟩ := h.al a ha
  have hi' : a.inv.data.toList = c.key.data.toList := by simpa using hi
  have := (h.find hc').symm.trans ((by rw [e, hi'] : findC C c'.key.data.toList = findC C c.key.data.toList).trans (h.find hc))
  obtain rfl := Option.some.inj this
  exact ⟨h1, hd⟩
theorem Good.oS_bounds {C : List Cl} {A : List Al} {g : Int} (h : Good C A g) {c : Cl} (hc : c ∈ C) (t : Int) : 0 ≤ oS A c t ∧ oS A c t ≤ c.amt := by
  have := shr_bounds (c := c) (P := ptsOf A c.key.data.toList) (fun p hp => (h.pts hc p hp).1) (h.sum c hc) (by have := (h.ok c hc).a1; omega) t
  exact ⟨this.1, this.2.1⟩
/-- what open tells of Open's list -/
theorem Good.is_open {C : List Cl} {A : List Al} {g : Int} (h : Good C A g) {c : Cl} (hc : c ∈ C) {k : List UInt8} (hk : c.acc.data.toList = k) {t : Int} (ht : dayB t = true) {R : List Cl} (hR : OpenIs C A k t R) {v : Int} (hv : IsOpen R c.key v) : v = oS A c t := by
  have e : opn C A k t = (ofC C k).filterMap (tel A t) := by unfold opn; rw [if_pos ht]
  rcases hv with ⟨x, hx, hxk, rfl⟩ | ⟨hno, rfl⟩
  · have hx2 := hR.perm.mem_iff.1 hx
    rw [e] at hx2
    obtain ⟨c', hc', ht'⟩ := List.mem_filterMap.1 hx2
    have hcC : c' ∈ C := (List.mem_filter.1 hc').1
    unfold tel at ht'
    split at ht'
    · have hxx := Option.some.inj ht'
      have hkk : c'.key = c.key := by rw [← hxk, ← hxx]
      have := (h.find hcC).symm.trans ((by rw [hkk] : findC C c'.key.data.toList = findC C c.key.data.toList).trans (h.find hc))
      obtain rfl := Option.some.inj this
      rw [← hxx]
      rfl
    · cases ht'
  · have hb := (h.oS_bounds hc t).1
    by_cases hp : oS A c t > 0
    · exfalso
      have ht' : tel A t c = some { c with amt := oS A c t } := by
        unfold tel
        exact if_pos hp
      have hm : ({ c with amt := oS A c t } : Cl) ∈ R := hR.perm.mem_iff.2 (by
        rw [e]
        exact List.mem_filterMap.2 ⟨c, List.mem_filter.2 ⟨hc, by simpa using hk⟩, ht'⟩)
      exact hno _ hm rfl
    · omega
end Go.Proofs.YtildpgfhahmgmaaDoor
