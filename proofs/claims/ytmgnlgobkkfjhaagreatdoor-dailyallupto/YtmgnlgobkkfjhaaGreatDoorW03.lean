import Derived.Test.YtmgnlgobkkfjhaaGreatDoorW02
import Derived.Laws.AppendOwn
import Derived.Laws.AppendOwnNone
import Derived.Laws.OwnMore
import Derived.Deep.AppendLies
import Derived.Deep.MidRow
import Derived.Laws.MakeOwn
import Derived.Maps.AppendAt
import Derived.Test.YtmgnlgobkkfjhaaGreatDoorW01
import Derived.Shelf.Abstract
import Derived.RangeFuncOwn
import Derived.Below
import Derived.BigCall
import Derived.BigQuiet
import Derived.Deep.QuietTactic
import Derived.Laws.BitsAll
import Derived.Lib.Bytes
import Derived.Lib.LastIndexByte
import Derived.Lib.SplitLaws
import Derived.OpenShut
import Derived.ProofKit
import Derived.WalkKit
import Derived.WalkLawsBesides
/- Rows of texts. -/
namespace Go.Proofs.YtmgnlgobkkfjhaaGreatDoor
open Go Go.ChangeShapes Go.WideShapes Go.ChangeAt Go.RowKit
set_option linter.unusedVariables false
theorem setCell_drewN (w : World) (n : Nat) (a : Addr) (v : Value) : (w.drewN n).setCell a v = (w.setCell a v).drewN n := rfl
theorem alloc_drewN (w : World) (n : Nat) (o : Obj) : (w.drewN n).alloc o = (w.alloc o).drewN n := rfl
theorem bal {w W : World} (h : Below w.heap.size w W) (o : Obj) : Below w.heap.size w (W.alloc o) := h.alloc h.size o
theorem below_drewN {B : Nat} {a w : World} (h : Below B a w) (n : Nat) : Below B a (w.drewN n) := ⟨h.os, h.tape, h.output, h.size, h.block⟩
theorem step_below {B : Nat} {a W w1 : World} (h : Below B a W) (hB : B ≤ a.heap.size) (hb : Below W.heap.size W w1) : Below B a w1 := h.trans (hb.mono (Nat.le_trans hB h.size))
theorem keep1 {W w1 : World} (hb : Below W.heap.size W w1) {b o : Nat} {v : Value} (h : b < W.heap.size) (hv : W.cell? ⟨b, o, none⟩ = some v) : w1.cell? ⟨b, o, none⟩ = some v := (hb.cell (p := ⟨b, o, none⟩) h).trans hv
theorem keepF {W w1 : World} (hb : Below W.heap.size W w1) {b o : Nat} {v : Bool} (h : b < W.heap.size) (hv : W.frozen? ⟨b, o, none⟩ = v) : w1.frozen? ⟨b, o, none⟩ = v := (hb.frozen (p := ⟨b, o, none⟩) h).trans hv
theorem drew_two (w : World) (m n : Nat) : (w.drewN m).drewN n = w.drewN (m + n) := World.drewN_drewN w m n
theorem info9 : (Tryz.prog.info? 9).map (fun i => (i.zero, i.size, i.bytes)) = some (some (.string ⟨#[]⟩), 1, 16) := by kernel_rfl
theorem info_parts {t : TypeId} {z : Value} {a b : Nat} (h : (Tryz.prog.info? t).map (fun i => (i.zero, i.size, i.bytes)) = some (some z, a, b)) : ∃ i, Tryz.prog.info? t = some i ∧ i.zero = some z ∧ i.size = a ∧ i.bytes = b := by
  obtain ⟨i, hi, hz⟩ := Option.map_eq_some_iff.1 h
  simp only [Prod.mk.injEq] at hz
  exact ⟨i, hi, hz.1, hz.2.1, hz.2.2⟩
theorem own_open {w : World} {base size n : Nat} {e : TypeId} {v : Value} {xs : List Value} (h : w.ownsRow base e size v n xs) (hn : 0 < n) : ∃ g c, v = .slice (some ⟨g, 0, none⟩) n c := by
  rcases h.2 with ⟨_, h0⟩ | ⟨g, cap, cur, rfl, _⟩
  · omega
  · exact ⟨g, cap, rfl⟩
theorem cell_one_new (w : World) (v : Value) (t : TypeId) : ∀ j u, ([v] : List Value)[j]? = some u → (w.alloc (.cells #[v] t)).cell? ((⟨w.heap.size, 0, none⟩ : Addr).add j) = some u := by
  intro j u hj
  rw [Addr.add_mid, Nat.zero_add, World.cell?_alloc_mark]
  simpa using hj
theorem one_one (s : ByteArray) : ∀ u ∈ ([.string s] : List Value), u.oneCell' = true := by
  intro u hu
  simp at hu
  subst hu
  rfl
/-- texts as cells -/
def scells (f : Nat → ByteArray) (n : Nat) : List Value := (List.range n).map fun i => .string (f i)
theorem scells_len (f : Nat → ByteArray) (n : Nat) : (scells f n).length = n := by simp [scells]
theorem scells_succ (f : Nat → ByteArray) (n : Nat) : scells f (n + 1) = scells f n ++ [.string (f n)] := by simp [scells, List.range_succ]
theorem scells_get (f : Nat → ByteArray) (n j : Nat) (h : j < n) : (scells f n)[j]? = some (.string (f j)) := by simp [scells, h]
theorem scells_get' {f : Nat → ByteArray} {n j : Nat} {u : Value} (h : (scells f n)[j]? = some u) : j < n ∧ u = .string (f j) := by
  by_cases hj : j < n
  · rw [scells_get f n j hj] at h
    exact ⟨hj, (Option.some.inj h).symm⟩
  · rw [List.getElem?_eq_none (by rw [scells_len]; omega)] at h
    cases h
theorem scells_one (f : Nat → ByteArray) (n : Nat) : ∀ u ∈ scells f n, u.oneCell' = true := by
  intro u hu
  simp only [scells, List.mem_map] at hu
  obtain ⟨i, _, rfl⟩ := hu
  rfl
theorem scells_ext {f g : Nat → ByteArray} (n : Nat) (h : ∀ i, i < n → f i = g i) : scells f n = scells g n := by
  induction n with
  | zero => rfl
  | succ n ih => rw [scells_succ, scells_succ, ih (fun i hi => h i (by omega)), h n (by omega)]
/-- one behind the other -/
def cat {α : Type} (f : Nat → α) (n : Nat) (g : Nat → α) : Nat → α := fun i => if i < n then f i else g (i - n)
theorem cat_lt {α : Type} {f g : Nat → α} {n i : Nat} (h : i < n) : cat f n g i = f i := by simp [cat, h]
theorem cat_ge {α : Type} {f g : Nat → α} {n : Nat} (i : Nat) : cat f n g (n + i) = g i := by
  have : ¬ n + i < n := by omega
  simp only [cat, if_neg this, Nat.add_sub_cancel_left]
/-- a list of texts as a row -/
def fOf (l : List (List UInt8)) : Nat → ByteArray := fun i => ⟨(l.getD i []).toArray⟩
theorem scells_list (l : List (List UInt8)) : scells (fOf l) l.length = l.map fun x => .string ⟨x.toArray⟩ := by
  apply List.ext_getElem?
  intro j
  by_cases hj : j < l.length
  · rw [scells_get _ _ _ hj]
    simp [fOf, hj, List.getD]
  · rw [List.getElem?_eq_none (by rw [scells_len]; omega), List.getElem?_eq_none (by simp; omega)]
/-- a slice that shows so many texts -/
def TLies (f : Nat → ByteArray) (v : Value) (n : Nat) (W : World) : Prop :=
  (n = 0 ∧ v = .slice none 0 0) ∨ ∃ b cap, v = .slice (some ⟨b, 0, none⟩) n cap ∧ b < W.heap.size ∧ ∀ k, k < n → W.cell? ⟨b, k, none⟩ = some (.string (f k))
theorem TLies.below {f : Nat → ByteArray} {v : Value} {n : Nat} {w w' : World} (h : TLies f v n w) (hb : Below w.heap.size w w') : TLies f v n w' := by
  rcases h with h | ⟨b, cap, h1, h2, h3⟩
  · exact .inl h
  · exact .inr ⟨b, cap, h1, Nat.lt_of_lt_of_le h2 hb.size, fun k hk => keep1 hb h2 (h3 k hk)⟩
theorem TLies.of_own {B n : Nat} {f : Nat → ByteArray} {v : Value} {w : World} (h : w.ownsRow B 9 1 v n (scells f n)) : TLies f v n w := by
  rcases h.2 with ⟨h1, h2⟩ | ⟨g, cap, cur, rfl, hb, _⟩
  · exact .inl ⟨h2, h1⟩
  · refine .inr ⟨g, cap, rfl, (h.lt g rfl).2, fun k hk => ?_⟩
    rw [h.cellAt k (by omega)]
    exact scells_get f n k hk
theorem grown_of_below {w w' : World} (h : Below w.heap.size w w') : w.grownBy w' none := ⟨h.os, h.tape, h.output, h.size, fun k hk _ => h.block k hk⟩
theorem below_of_grown {w w' : World} (h : w.grownBy w' none) : Below w.heap.size w w' := ⟨h.os, h.tape, h.output, h.size, fun k hk => h.block k hk (by simp)⟩
theorem own_below {w w' : World} {base size n : Nat} {e : TypeId} {v : Value} {xs : List Value} (h : w.ownsRow base e size v n xs) (hb : Below w.heap.size w w') : w'.ownsRow base e size v n xs :=
  h.kept (grown_of_below hb) (by cases hv : v.ownBlock <;> simp)
end Go.Proofs.YtmgnlgobkkfjhaaGreatDoor
/- daily: series in memory; sort.Search (37), ahead (27, 39), upTo (25, 38), balance (74). -/
namespace Go.Proofs.YtmgnlgobkkfjhaaGreatDoor
open Go Go.Shelf Go.ChangeShapes Go.WideShapes Go.ChangeAt Go.RowKit Go.Maps
set_option linter.unusedVariables false
def mvals (m : Mk) : List Value := [.int .i64 m.1, .int .i64 m.2.1, .int .i64 m.2.2]
/-- marks that lie somewhere -/
def MksAt (W : World) (p : Option Addr) (S : List Mk) : Prop :=
  (p = none → S = []) ∧ ∀ k (hk : k < S.length), ∃ b off, p = some ⟨b, off, none⟩ ∧ b < W.heap.size ∧ W.rangeAt b (off + k * 3) (mvals S[k])
theorem MksAt.drewN {W : World} {p : Option Addr} {S : List Mk} (h : MksAt W p S) (m : Nat) : MksAt (W.drewN m) p S :=
  ⟨h.1, fun k hk => by
    obtain ⟨b, off, e, hlt, hr⟩ := h.2 k hk
    exact ⟨b, off, e, by simpa using hlt, fun j u hu => by simpa using hr j u hu⟩⟩
theorem MksAt.below {W W' : World} {p : Option Addr} {S : List Mk} (h : MksAt W p S) (hb : Below W.heap.size W W') : MksAt W' p S := by
  refine ⟨h.1, fun k hk => ?_⟩
  obtain ⟨b, off, e, hlt, hr⟩ := h.2 k hk
  exact ⟨b, off, e, Nat.lt_of_lt_of_le hlt hb.size, fun j u hu => (hb.cell (p := ⟨b, off + k * 3 + j, none⟩) hlt).trans (hr j u hu)⟩
set_option maxRecDepth 100000 in
set_option maxHeartbeats 4000000 in
theorem search_any (g : Nat) (v1 v2 : Value) (eg : ∀ args w, (callFunc g args).run Tryz.prog w = .ok (.enter g args) w) (n : Nat) (hn : n ≤ 4611686018427387904) (P : Nat → Bool) (hm : ∀ i j, i ≤ j → j < n → P i = true → P j = true) (w : World)
    (hc : ∀ m k, k < n → Calls Tryz.prog g #[.int .i64 k, v1, v2] (w.drewN m) fun e w' => e = .returned (.bool (P k)) ∧ ∃ m', w' = w.drewN m') :
    Calls Tryz.prog 166 #[.int .i64 n, .func (.func g) #[] #[v1, v2]] w fun e w' => ∃ r m : Nat, e = .returned (.int .i64 r) ∧ r ≤ n ∧ (∀ k, k < r → P k = false) ∧ (∀ k, r ≤ k → k < n → P k = true) ∧ w' = w.drewN m := by
  have HC := hide hc; have HM := hide hm
  clear hc hm
  go_enter Tryz.func166, Tryz.ntmps166
  go_wp2_with fail
  go_loopw [5, 6] (fun v5 v6 wr => ∃ (i j m : Nat), v5 = .int .i64 i ∧ v6 = .int .i64 j ∧ i ≤ j ∧ j ≤ n ∧ wr = w.drewN m ∧ Hid ((∀ k, k < i → P k = false) ∧ (∀ k, j ≤ k → k < n → P k = true))) (fun v5 v6 _ => (intOf v6 - intOf v5).toNat)
  case atStart => exact ⟨0, n, 0, rfl, rfl, by omega, by omega, rfl, fun k h => by omega, fun k h1 h2 => by omega⟩
  case round =>
    obtain ⟨i, j, m, rfl, rfl, hij, hjn, hwr, hinv⟩ := hrel
    by_cases hlt : i < j
    · rw [hwr]
      clear hwr
      obtain ⟨h, hh⟩ : ∃ h : Nat, ((i : Int) + j) / 2 = h := ⟨(i + j) / 2, by omega⟩
      have hcl := unhide HC m h (by omega)
      have hmm := unhide HM
      have hI := unhide hinv
      have e1 : P h = false → ∀ k, k < h + 1 → P k = false := fun hf k hk => by
        cases hpk : P k
        · rfl
        · have := hmm k h (by omega) (by omega) hpk
          rw [hf] at this
          cases this
      have e2 : P h = true → ∀ k, h ≤ k → k < n → P k = true := fun ht k hk hkn => hmm h k hk hkn ht
      have E1 := hide e1; have E2 := hide e2; have HCL := hide hcl
      clear e1 e2 hmm hI hcl
      go_wp2_with fail
      refine (unhide HCL).mono ?_
      rintro e w' ⟨rfl, m', rfl⟩
      have hh1 : (i : Int) ≤ h ∧ (h : Int) < j := by omega
      clear HCL hh
      cases hp : P h
      · have I2 := hide (And.intro (unhide E1 hp) (unhide hinv).2)
        go_wp2_with fail
        refine ⟨⟨h + 1, j, m', by simp, rfl, by omega, hjn, rfl, unhide I2⟩, by simp [intOf]; omega⟩
      · have I2 := hide (And.intro (unhide hinv).1 (unhide E2 hp))
        go_wp2_with fail
        refine ⟨⟨i, h, m', rfl, rfl, by omega, by omega, rfl, unhide I2⟩, by simp [intOf]; omega⟩
    · have e : i = j := by omega
      subst e
      rw [hwr]
      clear hwr
      go_wp2_with fail
      go_ret
      exact ⟨i, m, rfl, hjn, (unhide hinv).1, (unhide hinv).2, rfl⟩
/-- a mark's day, read by a closure -/
def dayOf (S : List Mk) (k : Nat) : Int := (S.getD k (0, 0, 0)).1
theorem dayOf_lt {S : List Mk} {k : Nat} (hk : k < S.length) : dayOf S k = (S[k]).1 := by simp [dayOf, List.getD, hk]
set_option maxRecDepth 100000 in
set_option maxHeartbeats 4000000 in
theorem ahead_cl (S : List Mk) (p : Option Addr) (c : Nat) (day : Int) (b1 b2 k : Nat) (hk : k < S.length) (w : World) (hS : MksAt w p S) (h1 : w.cell? ⟨b1, 0, none⟩ = some (.slice p S.length c)) (h2 : w.cell? ⟨b2, 0, none⟩ = some (.int .i64 day)) :
    Calls Tryz.prog 169 #[.int .i64 k, .pointer (some ⟨b1, 0, none⟩), .pointer (some ⟨b2, 0, none⟩)] w fun e w' => e = .returned (.bool (decide (dayOf S k ≥ day))) ∧ ∃ m', w' = w.drewN m' := by
  obtain ⟨b, off, e, hlt, hr⟩ := hS.2 k hk
  rw [dayOf_lt hk]
  obtain ⟨N, hN⟩ : ∃ N, N = S.length := ⟨_, rfl⟩
  obtain ⟨D, hD⟩ : ∃ D, D = (S[k]).1 := ⟨_, rfl⟩
  have hc : w.cell? ⟨b, off + k * 3, none⟩ = some (.int .i64 D) := by rw [hD]; exact hr 0 _ rfl
  rw [← hN] at h1 hk
  rw [← hD]
  subst e
  clear hr hS hN hD
  go_enter Tryz.func169, Tryz.ntmps169
  go_wp2_with fail
  go_quiet (fail)
  go_wp2_with fail
  go_ret
  exact ⟨rfl, _, rfl⟩
set_option maxRecDepth 100000 in
set_option maxHeartbeats 4000000 in
theorem upto_cl (S : List Mk) (p : Option Addr) (c : Nat) (day : Int) (b1 b2 k : Nat) (hk : k < S.length) (w : World) (hS : MksAt w p S) (h1 : w.cell? ⟨b1, 0, none⟩ = some (.slice p S.length c)) (h2 : w.cell? ⟨b2, 0, none⟩ = some (.int .i64 day)) :
    Calls Tryz.prog 167 #[.int .i64 k, .pointer (some ⟨b1, 0, none⟩), .pointer (some ⟨b2, 0, none⟩)] w fun e w' => e = .returned (.bool (decide (dayOf S k > day))) ∧ ∃ m', w' = w.drewN m' := by
  obtain ⟨b, off, e, hlt, hr⟩ := hS.2 k hk
  rw [dayOf_lt hk]
  obtain ⟨N, hN⟩ : ∃ N, N = S.length := ⟨_, rfl⟩
  obtain ⟨D, hD⟩ : ∃ D, D = (S[k]).1 := ⟨_, rfl⟩
  have hc : w.cell? ⟨b, off + k * 3, none⟩ = some (.int .i64 D) := by rw [hD]; exact hr 0 _ rfl
  rw [← hN] at h1 hk
  rw [← hD]
  subst e
  clear hr hS hN hD
  go_enter Tryz.func167, Tryz.ntmps167
  go_wp2_with fail
  go_quiet (fail)
  go_wp2_with fail
  go_ret
  exact ⟨rfl, _, rfl⟩
theorem up_day {S : List Mk} (hu : S.Pairwise fun a b => a.1 < b.1) {i j : Nat} (hij : i ≤ j) (hj : j < S.length) : dayOf S i ≤ dayOf S j := by
  rw [dayOf_lt hj, dayOf_lt (by omega)]
  by_cases e : i = j
  · subst e; exact Int.le_refl _
  · exact Int.le_of_lt (List.pairwise_iff_getElem.1 hu i j (by omega) hj (by omega))
set_option maxRecDepth 100000 in
set_option maxHeartbeats 4000000 in
theorem ahead_any (S : List Mk) (hu : S.Pairwise fun a b => a.1 < b.1) (hl : S.length ≤ 4611686018427387904) (p : Option Addr) (c : Nat) (day : Int) (w : World) (hS : MksAt w p S) :
    Calls Tryz.prog 91 #[.slice p S.length c, .int .i64 day] w fun e w' => ∃ r : Nat, e = .returned (.int .i64 r) ∧ r ≤ S.length ∧ (∀ k, k < r → dayOf S k < day) ∧ (∀ k, r ≤ k → k < S.length → dayOf S k ≥ day) ∧ Below w.heap.size w w' := by
  have eg : ∀ args w, (callFunc 169 args).run Tryz.prog w = .ok (.enter 169 args) w := enters_of Tryz.func169 (by kernel_rfl) rfl
  obtain ⟨W, hW⟩ : ∃ W, W = (w.alloc (.cells #[.slice p S.length c] 96)).alloc (.cells #[.int .i64 day] 3) := ⟨_, rfl⟩
  have hbW : Below w.heap.size w W := by rw [hW]; exact bal (bal (Below.refl _ _) _) _
  have hc1 : W.cell? ⟨w.heap.size, 0, none⟩ = some (.slice p S.length c) := by
    rw [hW, World.cell?_alloc_lt _ _ _ (by simp), World.cell?_alloc_mark]; rfl
  have hc2 : W.cell? ⟨w.heap.size + 1, 0, none⟩ = some (.int .i64 day) := by
    have e : w.heap.size + 1 = (w.alloc (.cells #[.slice p S.length c] 96)).heap.size := by simp
    rw [hW, e, World.cell?_alloc_mark]; rfl
  have hSW := hS.below hbW
  have dS := hide (search_any 169 (.pointer (some ⟨w.heap.size, 0, none⟩)) (.pointer (some ⟨w.heap.size + 1, 0, none⟩)) eg S.length hl (fun k => decide (dayOf S k ≥ day)) (fun i j hij hj h => by
    have h1 := up_day hu hij hj
    have h2 := of_decide_eq_true h
    exact decide_eq_true (by omega)) W (fun m k hk => (ahead_cl S p c day w.heap.size (w.heap.size + 1) k hk (W.drewN m) (hSW.drewN m) (by simpa using hc1) (by simpa using hc2)).mono (fun e w' ⟨h1, m', h2⟩ => ⟨h1, m + m', by rw [h2]; simp⟩)))
  obtain ⟨N, hN⟩ : ∃ N, N = S.length := ⟨_, rfl⟩
  have HBW := hide hbW
  rw [← hN] at dS hW ⊢
  have hcN : W.cell? ⟨w.heap.size, 0, none⟩ = some (.slice p N c) := by rw [hN]; exact hc1
  clear hbW hc1 hSW hS eg hN hu hl
  subst hW
  go_enter Tryz.func91, Tryz.ntmps91
  go_wp2_with fail
  refine (unhide dS).mono ?_
  rintro e w' ⟨r, m, rfl, hr, h1, h2, hw⟩
  have HB : Hid (Below w.heap.size w w') := by rw [hw]; exact below_drewN (unhide HBW) m
  have HH : Hid ((∀ k, k < r → dayOf S k < day) ∧ (∀ k, r ≤ k → k < N → dayOf S k ≥ day)) := ⟨fun k hk => by have := of_decide_eq_false (h1 k hk); omega, fun k hk hn => of_decide_eq_true (h2 k hk hn)⟩
  clear h1 h2 hw
  go_wp2_with fail
  go_ret
  exact ⟨r, rfl, hr, (unhide HH).1, (unhide HH).2, unhide HB⟩
set_option maxRecDepth 100000 in
set_option maxHeartbeats 4000000 in
theorem upto_any (S : List Mk) (hu : S.Pairwise fun a b => a.1 < b.1) (hl : S.length ≤ 4611686018427387904) (p : Option Addr) (c : Nat) (day : Int) (w : World) (hS : MksAt w p S) :
    Calls Tryz.prog 89 #[.slice p S.length c, .int .i64 day] w fun e w' => ∃ r : Nat, e = .returned (.int .i64 r) ∧ r ≤ S.length ∧ (∀ k, k < r → dayOf S k ≤ day) ∧ (∀ k, r ≤ k → k < S.length → dayOf S k > day) ∧ Below w.heap.size w w' := by
  have eg : ∀ args w, (callFunc 167 args).run Tryz.prog w = .ok (.enter 167 args) w := enters_of Tryz.func167 (by kernel_rfl) rfl
  obtain ⟨W, hW⟩ : ∃ W, W = (w.alloc (.cells #[.slice p S.length c] 96)).alloc (.cells #[.int .i64 day] 3) := ⟨_, rfl⟩
  have hbW : Below w.heap.size w W := by rw [hW]; exact bal (bal (Below.refl _ _) _) _
  have hc1 : W.cell? ⟨w.heap.size, 0, none⟩ = some (.slice p S.length c) := by
    rw [hW, World.cell?_alloc_lt _ _ _ (by simp), World.cell?_alloc_mark]; rfl
  have hc2 : W.cell? ⟨w.heap.size + 1, 0, none⟩ = some (.int .i64 day) := by
    have e : w.heap.size + 1 = (w.alloc (.cells #[.slice p S.length c] 96)).heap.size := by simp
    rw [hW, e, World.cell?_alloc_mark]; rfl
  have hSW := hS.below hbW
  have dS := hide (search_any 167 (.pointer (some ⟨w.heap.size, 0, none⟩)) (.pointer (some ⟨w.heap.size + 1, 0, none⟩)) eg S.length hl (fun k => decide (dayOf S k > day)) (fun i j hij hj h => by
    have h1 := up_day hu hij hj
    have h2 := of_decide_eq_true h
    exact decide_eq_true (by omega)) W (fun m k hk => (upto_cl S p c day w.heap.size (w.heap.size + 1) k hk (W.drewN m) (hSW.drewN m) (by simpa using hc1) (by simpa using hc2)).mono (fun e w' ⟨h1, m', h2⟩ => ⟨h1, m + m', by rw [h2]; simp⟩)))
  obtain ⟨N, hN⟩ : ∃ N, N = S.length := ⟨_, rfl⟩
  have HBW := hide hbW
  rw [← hN] at dS hW ⊢
  have hcN : W.cell? ⟨w.heap.size, 0, none⟩ = some (.slice p N c) := by rw [hN]; exact hc1
  clear hbW hc1 hSW hS eg hN hu hl
  subst hW
  go_enter Tryz.func89, Tryz.ntmps89
  go_wp2_with fail
  refine (unhide dS).mono ?_
  rintro e w' ⟨r, m, rfl, hr, h1, h2, hw⟩
  have HB : Hid (Below w.heap.size w w') := by rw [hw]; exact below_drewN (unhide HBW) m
  have HH : Hid ((∀ k, k < r → dayOf S k ≤ day) ∧ (∀ k, r ≤ k → k < N → dayOf S k > day)) := ⟨fun k hk => by have := of_decide_eq_false (h1 k hk); omega, fun k hk hn => of_decide_eq_true (h2 k hk hn)⟩
  clear h1 h2 hw
  go_wp2_with fail
  go_ret
  exact ⟨r, rfl, hr, (unhide HH).1, (unhide HH).2, unhide HB⟩
set_option maxRecDepth 100000 in
theorem blc_any (S : List Mk) (p : Option Addr) (c n : Nat) (hn : n ≤ S.length) (hl : S.length ≤ 4611686018427387904) (w : World) (hS : MksAt w p S) :
    Calls Tryz.prog 88 #[.slice p S.length c, .int .i64 n] w fun e w' => e = .returned (.int .i64 (if n = 0 then 0 else (S.getD (n - 1) (0, 0, 0)).2.2)) ∧ w' = w := by
  obtain ⟨N, hN⟩ : ∃ N, N = S.length := ⟨_, rfl⟩
  by_cases h0 : n = 0
  · subst h0
    rw [if_pos rfl]
    clear hS hn
    go_enter Tryz.func88, Tryz.ntmps88
    go_wp2_with fail
    go_ret
    exact ⟨rfl, rfl⟩
  · have hk : n - 1 < S.length := by omega
    rw [if_neg h0]
    obtain ⟨b, off, e, hlt, hr⟩ := hS.2 (n - 1) hk
    have eg : S.getD (n - 1) (0, 0, 0) = S[n - 1] := by simp [List.getD, hk]
    rw [eg]
    obtain ⟨D, hD⟩ : ∃ D, D = (S[n - 1]).2.2 := ⟨_, rfl⟩
    have hc : w.cell? ⟨b, off + (n - 1) * 3 + 2, none⟩ = some (.int .i64 D) := by rw [hD]; exact hr 2 _ rfl
    rw [← hD]
    rw [← hN] at hk hn hl ⊢
    subst e
    obtain ⟨k, rfl⟩ : ∃ k, n = k + 1 := ⟨n - 1, by omega⟩
    rw [Nat.add_sub_cancel] at hc hk
    clear hr hS hN hD eg
    go_enter Tryz.func88, Tryz.ntmps88
    go_wp2_with fail
    go_ret
    exact ⟨rfl, rfl⟩
end Go.Proofs.YtmgnlgobkkfjhaaGreatDoor
/- rows of any kind of element: lists of them that lie somewhere, and lists that a call owns. -/
namespace Go.Proofs.YtmgnlgobkkfjhaaGreatDoor
open Go Go.Shelf Go.ChangeShapes Go.WideShapes Go.ChangeAt Go.RowKit Go.Maps
set_option linter.unusedVariables false
/-- a kind of element: its cells, its size in cells and in bytes, the type of its slices and its own -/
structure Kd (α : Type) where
  enc : α → List Value
  s : Nat
  t : TypeId
  e : TypeId
  by' : Nat
structure KdOK {α : Type} (K : Kd α) : Prop where
  len : ∀ x, (K.enc x).length = K.s
  pos : 0 < K.s
  one : ∀ x, ∀ u ∈ K.enc x, u.oneCell' = true
  und : Tryz.prog.underlying K.t = some (.slice K.e)
  info : ∃ i z, Tryz.prog.info? K.e = some i ∧ i.zero = some z ∧ i.size = K.s ∧ i.bytes = K.by' ∧ z.cells.size = K.s
  small : K.by' ≤ 128
variable {α : Type} {K : Kd α}
def Kd.flat (K : Kd α) (L : List α) : List Value := L.flatMap K.enc
theorem flat_nil : K.flat [] = [] := rfl
theorem flat_append (L M : List α) : K.flat (L ++ M) = K.flat L ++ K.flat M := List.flatMap_append
theorem flat_sing (x : α) : K.flat [x] = K.enc x := by simp [Kd.flat]
theorem flat_len (h : KdOK K) (L : List α) : (K.flat L).length = L.length * K.s := by
  induction L with
  | nil => simp [Kd.flat]
  | cons r R ih =>
    have e : K.flat (r :: R) = K.enc r ++ K.flat R := by simp [Kd.flat]
    rw [e, List.length_append, ih, h.len, List.length_cons, Nat.add_mul, Nat.one_mul]
    omega
theorem flat_get (h : KdOK K) : ∀ (L : List α) (k : Nat) (hk : k < L.length) (j : Nat), j < K.s → (K.flat L)[k * K.s + j]? = (K.enc L[k])[j]?
  | [], k, hk, _, _ => by simp at hk
  | r :: R, 0, _, j, hj => by
    have e : K.flat (r :: R) = K.enc r ++ K.flat R := by simp [Kd.flat]
    rw [e, List.getElem?_append_left (by rw [h.len]; omega)]
    simp
  | r :: R, k + 1, hk, j, hj => by
    have e : K.flat (r :: R) = K.enc r ++ K.flat R := by simp [Kd.flat]
    have e2 : (k + 1) * K.s + j - (K.enc r).length = k * K.s + j := by rw [h.len, Nat.add_mul, Nat.one_mul]; omega
    rw [e, List.getElem?_append_right (by rw [h.len, Nat.add_mul, Nat.one_mul]; omega), e2, flat_get h R k (by simpa using hk) j hj]
    simp
theorem flat_one (h : KdOK K) (L : List α) : ∀ u ∈ K.flat L, u.oneCell' = true := fun u hu => by
  obtain ⟨r, hr, hx⟩ := List.mem_flatMap.1 hu
  exact h.one r u hx
/-- elements that lie somewhere -/
def Lies (K : Kd α) (W : World) (p : Option Addr) (L : List α) : Prop :=
  (p = none → L = []) ∧ ∀ k (hk : k < L.length), ∃ b off, p = some ⟨b, off, none⟩ ∧ b < W.heap.size ∧ W.rangeAt b (off + k * K.s) (K.enc L[k])
theorem Lies.nil (W : World) (p : Option Addr) : Lies K W p [] := ⟨fun _ => rfl, fun k hk => by simp at hk⟩
theorem Lies.drewN {W : World} {p : Option Addr} {L : List α} (h : Lies K W p L) (m : Nat) : Lies K (W.drewN m) p L :=
  ⟨h.1, fun k hk => by
    obtain ⟨b, off, e, hlt, hr⟩ := h.2 k hk
    exact ⟨b, off, e, by simpa using hlt, fun j u hu => by simpa using hr j u hu⟩⟩
theorem Lies.below {W W' : World} {p : Option Addr} {L : List α} (h : Lies K W p L) (hb : Below W.heap.size W W') : Lies K W' p L := by
  refine ⟨h.1, fun k hk => ?_⟩
  obtain ⟨b, off, e, hlt, hr⟩ := h.2 k hk
  exact ⟨b, off, e, Nat.lt_of_lt_of_le hlt hb.size, fun j u hu => (hb.cell (p := ⟨b, off + k * K.s + j, none⟩) hlt).trans (hr j u hu)⟩
theorem Lies.block {W W' : World} {b off : Nat} {L : List α} (h : Lies K W (some ⟨b, off, none⟩) L) (hs : W.heap.size ≤ W'.heap.size) (hb : W'.heap[b]? = W.heap[b]?) : Lies K W' (some ⟨b, off, none⟩) L := by
  refine ⟨h.1, fun k hk => ?_⟩
  obtain ⟨b', off', e, hlt, hr⟩ := h.2 k hk
  cases e
  exact ⟨b, off, rfl, Nat.lt_of_lt_of_le hlt hs, fun j u hu => (World.cell?_of_block (a := ⟨b, off + k * K.s + j, none⟩) hb).trans (hr j u hu)⟩
/-- a part of what lies there -/
theorem Lies.part {W : World} {b off : Nat} {L : List α} (h : Lies K W (some ⟨b, off, none⟩) L) (a m : Nat) : Lies K W (some ⟨b, off + a * K.s, none⟩) ((L.drop a).take m) := by
  refine ⟨(fun h => by cases h), fun k hk => ?_⟩
  rw [List.length_take, List.length_drop] at hk
  have hak : a + k < L.length := by omega
  obtain ⟨b', off', e, hlt, hr⟩ := h.2 (a + k) hak
  cases e
  refine ⟨b, off + a * K.s, rfl, hlt, ?_⟩
  rw [List.getElem_take, List.getElem_drop, Nat.add_assoc, ← Nat.add_mul]
  exact hr
theorem row_block {W : World} {B g e s n : Nat} {v : Value} {xs : List Value} (h : W.ownsRow B e s v n xs) (hg : v.ownBlock = some g) : B ≤ g ∧ g < W.heap.size ∧ ∃ o, W.heap[g]? = some o ∧ o.isCells = true := by
  rcases h.2 with ⟨e, h2⟩ | ⟨g', cap, cur, e, hB, hh, h3⟩
  · rw [e] at hg; cases hg
  · rw [e] at hg
    have e2 : g' = g := Option.some.inj hg
    subst e2
    exact ⟨hB, (Array.getElem?_eq_some_iff.1 hh).1, _, hh, rfl⟩
theorem row_keep {W W' : World} {B e s n : Nat} {v : Value} {xs : List Value} (h : W.ownsRow B e s v n xs) (hk : ∀ g, v.ownBlock = some g → W'.heap[g]? = W.heap[g]?) : W'.ownsRow B e s v n xs := by
  refine ⟨h.1, ?_⟩
  rcases h.2 with h2 | ⟨g, cap, cur, e, hB, hh, h3⟩
  · exact .inl h2
  · exact .inr ⟨g, cap, cur, e, hB, (hk g (by rw [e]; rfl)).trans hh, h3⟩
theorem row_le {W : World} {B B' e s n : Nat} {v : Value} {xs : List Value} (h : W.ownsRow B e s v n xs) (hb : B' ≤ B) : W.ownsRow B' e s v n xs := by
  refine ⟨h.1, ?_⟩
  rcases h.2 with h2 | ⟨g, cap, cur, e, hB, h3⟩
  · exact .inl h2
  · exact .inr ⟨g, cap, cur, e, Nat.le_trans hb hB, h3⟩
theorem row_slice {W : World} {B e s n : Nat} {v : Value} {xs : List Value} (h : W.ownsRow B e s v n xs) : ∃ p c, v = .slice p n c ∧ (p = none → n = 0 ∧ c = 0) ∧ (∀ a, p = some a → a.off = 0 ∧ a.spot = none ∧ B ≤ a.block ∧ n ≤ c) := by
  rcases h.2 with ⟨e, h2⟩ | ⟨g, cap, cur, e, hB, hh, hc, h3⟩
  · exact ⟨none, 0, by rw [e, h2], (fun _ => ⟨h2, rfl⟩), (fun a h => by cases h)⟩
  · exact ⟨_, _, e, (fun h => by cases h), (fun a h => by cases h; exact ⟨rfl, rfl, hB, by omega⟩)⟩
theorem own_lies (hK : KdOK K) {W : World} {B : Nat} {p : Option Addr} {c n : Nat} {L : List α} (hn : L.length = n) (h : W.ownsRow B K.e K.s (.slice p n c) n (K.flat L)) : Lies K W p L := by
  rcases h.2 with ⟨e, h2⟩ | ⟨g, cap, cur, e, hB, hh, hc, hm, hcs, ht⟩
  · have : L = [] := List.eq_nil_of_length_eq_zero (by omega)
    subst this
    exact Lies.nil _ _
  · cases e
    refine ⟨(fun h => by cases h), fun k hk => ⟨g, 0, rfl, (Array.getElem?_eq_some_iff.1 hh).1, fun j u hu => ?_⟩⟩
    have hj : j < K.s := by
      have := (List.getElem?_eq_some_iff.1 hu).1
      rwa [hK.len] at this
    have h3 := flat_get hK L k hk j hj
    rw [hu] at h3
    have hk2 : (cur.toList.take (n * K.s))[k * K.s + j]? = some u := by rw [ht]; exact h3
    have hlt : k * K.s + j < n * K.s := by
      have : (k + 1) * K.s ≤ n * K.s := Nat.mul_le_mul_right _ (by omega)
      rw [Nat.add_mul, Nat.one_mul] at this
      omega
    rw [List.getElem?_take_of_lt hlt] at hk2
    unfold World.cell?
    simp only [hh, Nat.zero_add]
    simpa using hk2
theorem news_of (hK : KdOK K) {W : World} {ad : Addr} {L : List α} (hu : Lies K W (some ad) L) : ∀ j u, (K.flat L)[j]? = some u → W.cell? (ad.add j) = some u := fun j u hj => by
  have hjl : j < L.length * K.s := by
    have := (List.getElem?_eq_some_iff.1 hj).1
    rwa [flat_len hK] at this
  have hk : j / K.s < L.length := Nat.div_lt_of_lt_mul (by rw [Nat.mul_comm]; exact hjl)
  obtain ⟨b, off, e, hlt, hr⟩ := hu.2 (j / K.s) hk
  have e' : ad = ⟨b, off, none⟩ := Option.some.inj e
  subst e'
  have e9 : j / K.s * K.s + j % K.s = j := Nat.div_add_mod' j K.s
  rw [Addr.add_mid]
  have h3 := flat_get hK L (j / K.s) hk (j % K.s) (Nat.mod_lt _ hK.pos)
  rw [e9, hj] at h3
  have h4 := hr (j % K.s) u h3.symm
  rw [Nat.add_assoc, e9] at h4
  exact h4
set_option maxRecDepth 100000 in
/-- an append of elements that lie somewhere, to a list that the call owns -/
theorem run_app (hK : KdOK K) {W : World} {B : Nat} {v : Value} {L M : List α} {n : Nat} (ty : TypeId) (h : W.ownsRow B K.e K.s v n (K.flat L)) (hB : B ≤ W.heap.size) (pu : Option Addr) (cu : Nat) (hcu : pu = none → cu = 0) (hu : Lies K W pu M) (hl : n + M.length ≤ 1099511627776) :
    ∃ p' c' w', (Builtin.append_ #[K.t, K.t] ty #[v, .slice pu M.length cu]).run Tryz.prog W = .ok (.slice p' (n + M.length) c') w' ∧ w'.ownsRow B K.e K.s (.slice p' (n + M.length) c') (n + M.length) (K.flat (L ++ M)) ∧ Below B W w' ∧ (∀ k, k < W.heap.size → v.ownBlock ≠ some k → w'.heap[k]? = W.heap[k]?) ∧ ((Value.slice p' (n + M.length) c').ownBlock = v.ownBlock ∨ (Value.slice p' (n + M.length) c').ownBlock = some W.heap.size) := by
  obtain ⟨i, z, hi, hz, hsize, hby, hzs⟩ := hK.info
  cases pu with
  | none =>
    have hR := hu.1 rfl
    subst hR
    rw [hcu rfl]
    have hr := run_append_owned_none (P := Tryz.prog) (w := W) B K.t ty K.e i K.s hK.und hi v n (K.flat L) h
    obtain ⟨p, c, e, _⟩ := row_slice h
    subst e
    exact ⟨p, c, W, hr, by rw [List.append_nil]; exact h, Below.refl _ _, fun _ _ _ => rfl, .inl rfl⟩
  | some ad =>
    obtain ⟨v', w', hr, ho, hg, hnil, hat⟩ := run_append_own_at (P := Tryz.prog) W B K.t ty K.e i z K.s K.by' hK.und hi hz hsize hby hzs hK.pos v n (K.flat L) h ad M.length cu (K.flat M) (flat_len hK M) (news_of hK hu) (flat_one hK M) (by unfold maxLen; omega) (by
      have h1 := hK.small
      have : (n + M.length) * K.by' ≤ 1099511627776 * 128 := Nat.mul_le_mul hl h1
      omega) hB
    rw [← flat_append] at ho
    obtain ⟨p, c, e, _⟩ := row_slice ho
    subst e
    refine ⟨p, c, w', hr, ho, ⟨hg.os, hg.tape, hg.output, hg.size, fun q hq => hg.block q (Nat.lt_of_lt_of_le hq hB) (fun e => ?_)⟩, fun k hk hne => hg.block k hk (fun e => hne e.symm), hat⟩
    have := (row_block h e.symm).1
    omega
/-- an append as an operation of a region, by its run -/
theorem wpList_append_run {P : Program} {w : World} {ops : Array Oper} {rest : List Oper} {o : Oper} {a : Act} {Q : Exit → Act → World → Prop} (hgd : o.guard = none) (s x : Operand) (t : TypeId)
    (ho : o.op = .call { callee := .builtin .append, args := #[s, x], argTypes := #[t, t] }) (v u v' : Value) (w' : World) (hs : a.eval s = v) (hx : a.eval x = u) (hr : (Builtin.append_ #[t, t] o.type #[v, u]).run P w = .ok v' w')
    (h : wpList P ops Q rest (a.put o.dst v') w') : wpList P ops Q (o :: rest) a w := by
  refine wpList_plain hgd fun K hK => ?_
  unfold Oper.wp execOp
  simp only [ho, resolve, invoke, builtin, Sem.run_bind, Sem.run_pure, Result.andThen_ok, List.map_toArray, List.map_cons, List.map_nil, hs, hx, hr]
  exact hK _ _ h
/-- a block of one element -/
theorem one_lies (W : World) (x : α) (t : TypeId) (vs : Array Value) (hv : vs.toList = K.enc x) : Lies K (W.alloc (.cells vs t)) (some ⟨W.heap.size, 0, none⟩) [x] := by
  refine ⟨(fun h => by cases h), fun k hk => ?_⟩
  have e : k = 0 := by simp at hk; exact hk
  subst e
  refine ⟨W.heap.size, 0, rfl, by simp, fun j u hu => ?_⟩
  rw [World.cell?_alloc_mark, Nat.zero_mul, Nat.zero_add]
  rw [show ([x] : List α)[0] = x from rfl, ← hv] at hu
  simpa using hu
/-- the kinds -/
def kT : Kd (Int × Int) := ⟨fun x => [.int .i64 x.1, .int .i64 x.2], 2, 94, 181, 16⟩
def kM : Kd Mk := ⟨mvals, 3, 96, 187, 24⟩
def kI : Kd Int := ⟨fun x => [.int .i64 x], 1, 129, 2, 8⟩
/-- a row of State: an account and a mark -/
abbrev Dr := ByteArray × Mk
def kD : Kd Dr := ⟨fun x => [.string x.1, .int .i64 x.2.1, .int .i64 x.2.2.1, .int .i64 x.2.2.2], 4, 22, 38, 40⟩
theorem kd_ok {K : Kd α} (len : ∀ x, (K.enc x).length = K.s) (pos : 0 < K.s) (one : ∀ x, ∀ u ∈ K.enc x, u.oneCell' = true) (und : Tryz.prog.underlying K.t = some (.slice K.e)) {z : Value} (info : (Tryz.prog.info? K.e).map (fun i => (i.zero, i.size, i.bytes)) = some (some z, K.s, K.by')) (hz : z.cells.size = K.s) (small : K.by' ≤ 128) : KdOK K := by
  obtain ⟨i, h1, h2, h3, h4⟩ := info_parts info
  exact ⟨len, pos, one, und, ⟨i, z, h1, h2, h3, h4, hz⟩, small⟩
theorem kT_ok : KdOK kT := kd_ok (fun _ => rfl) (by decide) (fun x u hu => by simp [kT] at hu; rcases hu with rfl | rfl <;> rfl) Tryz.underlying94 (z := .agg #[.int .i64 0, .int .i64 0]) (by kernel_rfl) rfl (by decide)
theorem kM_ok : KdOK kM := kd_ok (fun _ => rfl) (by decide) (fun x u hu => by simp [kM, mvals] at hu; rcases hu with rfl | rfl | rfl <;> rfl) Tryz.underlying96 (z := .agg #[.int .i64 0, .int .i64 0, .int .i64 0]) (by kernel_rfl) rfl (by decide)
theorem kI_ok : KdOK kI := kd_ok (fun _ => rfl) (by decide) (fun x u hu => by simp [kI] at hu; subst hu; rfl) Tryz.underlying129 (z := .int .i64 0) (by kernel_rfl) rfl (by decide)
theorem kD_ok : KdOK kD := kd_ok (fun _ => rfl) (by decide) (fun x u hu => by simp [kD] at hu; rcases hu with rfl | rfl | rfl | rfl <;> rfl) Tryz.underlying22 (z := .agg #[.string ⟨#[]⟩, .int .i64 0, .int .i64 0, .int .i64 0]) (by kernel_rfl) rfl (by decide)
theorem lies_marks {W : World} {p : Option Addr} {S : List Mk} : Lies kM W p S ↔ MksAt W p S := Iff.rfl
end Go.Proofs.YtmgnlgobkkfjhaaGreatDoor
/- what lies in memory: as in DlR. -/
