/- A list of numbers and a call as arguments, opened. -/
import Derived.Test.YtgimeecklmmbjaaDoorOpA
namespace Go.Proofs.YtgimeecklmmbjaaDoor
open Go Go.Shelf Go.ChangeShapes Go.WideShapes Go.ChangeAt Go.RowKit Go.Maps Go.Sort Go.Deep
set_option linter.unusedVariables false
theorem bytes3 : Tryd.prog.bytesOf 3 = 8 := by kernel_rfl
/-- numbers that came in -/
def NumsAt (W : World) (p : Option Addr) (M : List Int) : Prop := ∀ k (hk : k < M.length), ∃ b off, p = some ⟨b, off, none⟩ ∧ b < W.heap.size ∧ W.cell? ⟨b, off + k, none⟩ = some (.int .i64 M[k])
theorem NumsAt.below {W X : World} {p : Option Addr} {M : List Int} (h : NumsAt W p M) (hb : Below W.heap.size W X) : NumsAt X p M := fun k hk => by
  obtain ⟨b, off, h1, h2, h3⟩ := h k hk
  exact ⟨b, off, h1, Nat.lt_of_lt_of_le h2 hb.size, (hb.cell (p := ⟨b, off + k, none⟩) h2).trans h3⟩
section
variable {H : Type} {enc : TypeId × Value → H} {W : World}
set_option maxRecDepth 100000 in
theorem open_nums {base : Nat} {v : Value} {d : DataW H} {p : List MemPlace} (hok : Value.okWide Tryd.prog W .any base 36 v) (h : ∃ fuel, DataW.trod enc Tryd.prog W 0 (fun _ => true) true fuel 36 v.cells.toList = some (d, p)) (hw : ∀ n ∈ d.weights Tryd.prog 36, n ≤ reachBytes) :
    ∃ (pm : Option Addr) (c : Nat) (M : List Int), v = .slice pm M.length c ∧ M.length ≤ 17592186043904 ∧ NumsAt W pm M := by
  obtain ⟨a0, len0, cap0, rfl⟩ := okWide_slice Tryd.underlying36 hok
  obtain ⟨fuel, hf⟩ := h
  rcases open_ints Tryd.underlying36 Tryd.underlying3 cells3 hf with ⟨hcs, _⟩ | ⟨a, len, cap, zs, hcs, hb, hl, hm, hz, hx, hcell, hwz⟩
  · simp [Value.cells] at hcs
    obtain ⟨rfl, rfl, rfl⟩ := hcs
    exact ⟨none, 0, [], rfl, by simp, fun k hk => by simp at hk⟩
  · simp [Value.cells] at hcs
    obtain ⟨rfl, rfl, rfl⟩ := hcs
    have hz' : zs.length = cap0 := by simpa using hz
    have hd : d = .slice (lits .i64 (zs.take len0)) (lits .i64 (zs.drop len0)) := (Prod.mk.inj hx).1
    have hlen : (zs.take len0).length = len0 := by rw [List.length_take]; omega
    have hle : len0 ≤ 17592186043904 := by
      have h1 := hw (((lits (H := H) .i64 (zs.take len0)).length + (lits (H := H) .i64 (zs.drop len0)).length) * Tryd.prog.bytesOf 3) (by
        rw [hd]
        simp only [DataW.weights, Tryd.underlying36]
        exact List.mem_cons_self)
      rw [bytes3] at h1
      unfold reachBytes at h1
      have h2 : (lits (H := H) .i64 (zs.take len0)).length = len0 := by simp only [lits, List.length_map]; exact hlen
      omega
    refine ⟨some a, cap0, zs.take len0, by rw [hlen], by rw [hlen]; exact hle, fun k hk => ?_⟩
    rw [hlen] at hk
    have hs : a.spot = none := by simpa [Addr.add] using World.cell?_spot (hcell 0 (by omega))
    obtain ⟨b, off, sp⟩ := a
    simp only at hs
    subst hs
    have hck := hcell k (by omega)
    rw [Addr.add_mid] at hck
    refine ⟨b, off, rfl, World.block_lt_of_cell? W _ hck, ?_⟩
    rw [hck]
    have e2 : zs.getD k 0 = (zs.take len0)[k]'(by omega) := by
      rw [List.getElem_take, List.getD_eq_getElem?_getD, List.getElem?_eq_getElem (by omega)]
      rfl
    rw [e2]
set_option maxRecDepth 100000 in
theorem open_actv {base : Nat} {v : Value} {d : DataW H} {p : List MemPlace} (hok : Value.okWide Tryd.prog W .any base 33 v) (h : ∃ fuel, DataW.trod enc Tryd.prog W 0 (fun _ => true) true fuel 33 v.cells.toList = some (d, p)) (hw : ∀ n ∈ d.weights Tryd.prog 33, n ≤ reachBytes) :
    ∃ a : Av, v = a.val ∧ a.ok := by
  obtain ⟨fuel, hf⟩ := h
  obtain ⟨a, h1, h2⟩ := open_act hf hw
  refine ⟨a, ?_, h2⟩
  have h3 : ∃ cs, v = .agg cs := by
    have hok' := hok
    unfold Value.okWide at hok'
    rw [Tryd.underlying33] at hok'
    cases v <;> simp_all
  obtain ⟨cs, rfl⟩ := h3
  have h4 : cs.toList = a.vals := h1
  rw [Av.val]
  congr 1
  rw [← Array.toList_inj, h4]
  rfl
end
end Go.Proofs.YtgimeecklmmbjaaDoor
