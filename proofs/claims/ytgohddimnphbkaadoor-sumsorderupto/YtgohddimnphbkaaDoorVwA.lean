/- sums: a view as the rows that it was told. -/
import Derived.Test.YtgohddimnphbkaaDoorStB
namespace Go.Proofs.YtgohddimnphbkaaDoor
open Go Go.RowKit Go.Shelf Go.ChangeShapes Go.WideShapes Go.ChangeAt Go.Maps Go.Sort
set_option linter.unusedVariables false
def DEB (L : Rows8) : Int := deb L (nub (L.map (·.1)))
def CRE (L : Rows8) : Int := cre L (nub (L.map (·.1)))
theorem own_in (L : Rows8) : ∀ k, own L k ≠ 0 → k ∈ nub (L.map (·.1)) := fun k h => by
  rw [mem_nub]
  refine Classical.byContradiction fun hn => h (own_none fun r hr e => hn ?_)
  exact List.mem_map.2 ⟨r, hr, e⟩
theorem DEB_nonneg (L : Rows8) : 0 ≤ DEB L := deb_nonneg _ _
theorem CRE_nonneg (L : Rows8) : 0 ≤ CRE L := cre_nonneg _ _
theorem own_bd (L : Rows8) (k : List UInt8) : -CRE L ≤ own L k ∧ own L k ≤ DEB L := by
  have h1 := own_le (own_in L) k
  have h2 := own_ge (own_in L) k
  exact ⟨by unfold CRE; omega, h1⟩
theorem roll_bd (L : Rows8) (k : List UInt8) : -CRE L ≤ roll ups L k ∧ roll ups L k ≤ DEB L := ⟨roll_ge ups L (nodup_nub _) (own_in L) k, roll_le ups L (nodup_nub _) (own_in L) k⟩
theorem DEB_same {L M : Rows8} (h : ∀ k, own L k = own M k) : DEB L = DEB M := deb_same (nodup_nub _) (nodup_nub _) (own_in L) (own_in M) h
theorem CRE_same {L M : Rows8} (h : ∀ k, own L k = own M k) : CRE L = CRE M := cre_same (nodup_nub _) (nodup_nub _) (own_in L) (own_in M) h
theorem newV_own (L R : Rows8) (k : List UInt8) : newV (own L) R k = own (L ++ R) k := by rw [newV, own_append]
theorem DEB_more (L R : Rows8) : DEB L + sm (fun k => pos (newV (own L) R k) - pos (own L k)) (nub (R.map (·.1))) = DEB (L ++ R) := by
  have h := deb_more L R (nodup_nub _) (nodup_nub _) (nodup_nub (R.map (·.1))) (own_in L) (own_in (L ++ R)) (fun r hr => by rw [mem_nub]; exact List.mem_map.2 ⟨r, hr, rfl⟩)
  unfold DEB
  rw [h]
  congr 1
  exact sm_congr fun k _ => by rw [newV_own]
theorem CRE_more (L R : Rows8) : CRE L + sm (fun k => neg (newV (own L) R k) - neg (own L k)) (nub (R.map (·.1))) = CRE (L ++ R) := by
  have h := cre_more L R (nodup_nub _) (nodup_nub _) (nodup_nub (R.map (·.1))) (own_in L) (own_in (L ++ R)) (fun r hr => by rw [mem_nub]; exact List.mem_map.2 ⟨r, hr, rfl⟩)
  unfold CRE
  rw [h]
  congr 1
  exact sm_congr fun k _ => by rw [newV_own]
/-- both sides are amounts -/
def fits (L : Rows8) : Prop := DEB L ≤ 9223372036854775807 ∧ CRE L ≤ 9223372036854775807
theorem fits_own {L : Rows8} (h : fits L) (k : List UInt8) : isA (own L k) := by
  have := own_bd L k
  have := h.1
  have := h.2
  exact ⟨by omega, by omega⟩
theorem fits_roll {L : Rows8} (h : fits L) (k : List UInt8) : isA (roll ups L k) := by
  have := roll_bd L k
  have := h.1
  have := h.2
  exact ⟨by omega, by omega⟩
theorem wrap_isA {x : Int} (h : isA x) : IntKind.i64.wrap x = x := by rw [IntKind.wrap_i64]; omega
theorem tw_iff (L R : Rows8) : twOK (own L) R (DEB L) (CRE L) ↔ fits (L ++ R) := by
  unfold twOK
  rw [DEB_more, CRE_more]
  constructor
  · rintro ⟨_, h1, h2⟩
    exact ⟨h1.2, h2.2⟩
  · intro h
    have h1 := DEB_nonneg (L ++ R)
    have h2 := CRE_nonneg (L ++ R)
    exact ⟨fun k _ => by rw [newV_own]; exact fits_own h k, ⟨by omega, h.1⟩, ⟨by omega, h.2⟩⟩
/-- the rows' names can be -/
def named (L : Rows8) : Prop := ∀ r ∈ L, nameL r.1 = true ∧ r.1.length < 4611686018427387904
theorem named_own {L : Rows8} (h : named L) : ∀ k, own L k ≠ 0 → nameL k = true ∧ k.length < 4611686018427387904 := fun k hk => by
  have := own_in L k hk
  rw [mem_nub] at this
  obtain ⟨r, hr, rfl⟩ := List.mem_map.1 this
  exact h r hr
/-- a view told the rows L -/
structure View (W : World) (d : Nat) (mo mr : Option Nat) (n : Nat) (L : Rows8) : Prop where
  at' : SumsAt W d mo mr n (own L) (roll ups L) (DEB L) (CRE L)
  ok : fits L
  nm : named L
theorem View.below {W W' : World} {d : Nat} {mo mr : Option Nat} {n : Nat} {L : Rows8} (h : View W d mo mr n L) (hb : Below W.heap.size W W') : View W' d mo mr n L := ⟨h.at'.below hb, h.ok, h.nm⟩
theorem View.block {W W' : World} {d : Nat} {mo mr : Option Nat} {n : Nat} {L : Rows8} (h : View W d mo mr n L) (hb : ∀ k, Blk d mo mr k → W'.heap[k]? = W.heap[k]?) : View W' d mo mr n L := ⟨h.at'.block hb, h.ok, h.nm⟩
theorem View.made (w : World) (n : Nat) : View (w.alloc (.cells #[.map none, .map none, .int .i64 0, .int .i64 0] 56)) w.heap.size none none n [] :=
  ⟨new_at w n, ⟨by decide, by decide⟩, fun r h => by cases h⟩
/-- what Apply leaves of a view -/
def VwOut (W : World) (d : Nat) (mo mr : Option Nat) (n : Nat) (L : Rows8) (R : List Ro) (e : Ending) (W' : World) : Prop :=
  (¬ ((∀ r ∈ R, okRow r) ∧ fits (L ++ rws R)) ∧ (∃ x : Int, e = .returned (.int .i64 x) ∧ (x = 1 ∨ x = 11)) ∧ Below W.heap.size W W') ∨
  ((∀ r ∈ R, okRow r) ∧ e = .returned (.int .i64 0) ∧ ∃ mo' mr', View W' d mo' mr' (n + 7 * R.length) (L ++ rws R) ∧ Stp W W' d mo mr mo' mr')
theorem apply_view {W : World} {d : Nat} {mo mr : Option Nat} {n : Nat} {L : Rows8} (h : View W d mo mr n L) (hn : n ≤ 1152921504606846976) {p : Option Addr} {cR : Nat} {R : List Ro} (hN : R.length ≤ 8388608) (hR : RowsAt W p R) (hpd : ∀ q, p = some ⟨q, 0, none⟩ → q ≠ d)
    (hacc : ∀ r ∈ R, r.acc.size < 4611686018427387904) (hamt : ∀ r ∈ R, -9223372036854775808 ≤ r.amt ∧ r.amt ≤ 9223372036854775807) :
    Calls Tryd.prog 8 #[.pointer (some ⟨d, 0, none⟩), .slice p R.length cR] W fun e W' => VwOut W d mo mr n L R e W' := by
  have h1 := DEB_nonneg L
  have h2 := CRE_nonneg L
  refine (apply_any d mo mr n (own L) (roll ups L) (DEB L) (CRE L) W h.at' (fits_own h.ok) ⟨by omega, h.ok.1⟩ ⟨by omega, h.ok.2⟩ p R.length cR R rfl hN hn hR hpd hacc hamt).mono ?_
  rintro e W' (⟨hno, rfl, hb⟩ | ⟨hok, hno, rfl, hb⟩ | ⟨hok, hyes, rfl, hva⟩)
  · exact .inl ⟨fun q => hno q.1, ⟨1, rfl, .inl rfl⟩, hb⟩
  · exact .inl ⟨fun q => hno ((tw_iff _ _).2 q.2), ⟨11, rfl, .inr rfl⟩, hb⟩
  · have hf := (tw_iff _ _).1 hyes
    obtain ⟨mo', mr', hs, hfr, hnew⟩ := hva
    refine .inr ⟨hok, rfl, mo', mr', ⟨?_, hf, fun r hr => ?_⟩, hfr, hnew⟩
    · rw [DEB_more, CRE_more] at hs
      have e1 : (fun k => IntKind.i64.wrap (own L k + own (rws R) k)) = own (L ++ rws R) := funext fun k => by
        rw [← own_append]; exact wrap_isA (fits_own hf k)
      have e2 : (fun k => IntKind.i64.wrap (roll ups L k + roll ups (rws R) k)) = roll ups (L ++ rws R) := funext fun k => by
        rw [← roll_append]; exact wrap_isA (fits_roll hf k)
      rw [e1, e2] at hs
      exact hs
    · rcases List.mem_append.1 hr with hr | hr
      · exact h.nm r hr
      · obtain ⟨q, hq, rfl⟩ := List.mem_map.1 hr
        exact ⟨(hok q hq).1, hacc q hq⟩
/-- the names that State tells -/
def heldBy (L : Rows8) (k : List UInt8) : Prop := ∃ x, own L x ≠ 0 ∧ k ∈ x :: ups x
/-- a list of balances that State has handed out -/
structure Bal (W : World) (B : Nat) (L : Rows8) (v : Value) (hs : List (List UInt8)) : Prop where
  nd : hs.Nodup
  mem : ∀ k, k ∈ hs ↔ heldBy L k
  row : W.ownsRow B 47 3 v hs.length (balC (own L) (roll ups L) (srt hs))
theorem state_view {W : World} {d : Nat} {mo mr : Option Nat} {n : Nat} {L : Rows8} (h : View W d mo mr n L) (hn : n ≤ 68719476736) :
    Calls Tryd.prog 9 #[.pointer (some ⟨d, 0, none⟩)] W fun e W' => ∃ v hs, e = .returned v ∧ Bal W' W.heap.size L v hs ∧ hs.length ≤ 6 * n ∧ Below W.heap.size W W' := by
  refine (state_any d mo mr n hn _ _ _ _ W h.at' (named_own h.nm)).mono ?_
  rintro e W' ⟨v, hs, rfl, hnd, hmem, hlen, hrow, hb⟩
  exact ⟨v, hs, rfl, ⟨hnd, hmem, hrow⟩, hlen, hb⟩
theorem Bal.same {W : World} {B B' : Nat} {L M : Rows8} {v v' : Value} {hs hs' : List (List UInt8)} (h : Bal W B L v hs) (h' : Bal W B' M v' hs') (e : ∀ k, own L k = own M k) : hs.length = hs'.length ∧ balC (own L) (roll ups L) (srt hs) = balC (own M) (roll ups M) (srt hs') := by
  have hm : ∀ k, k ∈ hs ↔ k ∈ hs' := fun k => by
    rw [h.mem, h'.mem]
    unfold heldBy
    simp only [e]
  have e1 : srt hs = srt hs' := srt_eq h.nd h'.nd hm
  have e2 : own L = own M := funext e
  have e3 : roll ups L = roll ups M := funext fun k => roll_own ups e k
  refine ⟨?_, by rw [e1, e2, e3]⟩
  have := congrArg List.length e1
  rwa [srt_len, srt_len] at this
theorem Bal.keep {W W' : World} {B : Nat} {L : Rows8} {v : Value} {hs : List (List UInt8)} (h : Bal W B L v hs) (hk : ∀ g, v.ownBlock = some g → W'.heap[g]? = W.heap[g]?) : Bal W' B L v hs := ⟨h.nd, h.mem, row_keep h.row hk⟩
end Go.Proofs.YtgohddimnphbkaaDoor
