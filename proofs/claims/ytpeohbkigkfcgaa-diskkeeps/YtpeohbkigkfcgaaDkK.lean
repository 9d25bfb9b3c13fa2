/- What holds of every disk that calls have made: plain theory of its files. -/
import Derived.Test.YtpeohbkigkfcgaaDkJ
namespace Go.Proofs.Ytpeohbkigkfcgaa
open Go Go.Shelf Go.ChangeShapes Go.WideShapes Go.ChangeAt Go.RowKit Go.Sort
set_option linter.unusedVariables false
/-- files by rising name -/
def OrdF (A : Fs) : Prop := A.Pairwise fun x y => bytesBefore x.1 y.1 = true
theorem mem_insF {x y : List UInt8 × Fl} : ∀ {A : Fs}, y ∈ insF x A ↔ y = x ∨ y ∈ A
  | [] => by simp [insF]
  | a :: A => by
    unfold insF
    split
    · simp
    · simp only [List.mem_cons, mem_insF (A := A)]
      constructor
      · rintro (h | h | h)
        · exact .inr (.inl h)
        · exact .inl h
        · exact .inr (.inr h)
      · rintro (h | h | h)
        · exact .inr (.inl h)
        · exact .inl h
        · exact .inr (.inr h)
theorem ord_ins {x : List UInt8 × Fl} : ∀ {A : Fs}, OrdF A → (∀ y ∈ A, y.1 ≠ x.1) → OrdF (insF x A)
  | [], _, _ => by simp [insF, OrdF]
  | a :: A, h, hn => by
    unfold OrdF at h
    rw [List.pairwise_cons] at h
    unfold insF
    split
    · rename_i hb
      have hb' : bytesBefore x.1 a.1 = true := hb
      refine List.pairwise_cons.2 ⟨fun y hy => ?_, List.pairwise_cons.2 h⟩
      rcases List.mem_cons.1 hy with rfl | hy
      · exact hb'
      · exact bytes_trans _ _ _ hb' (h.1 y hy)
    · rename_i hb
      have hb' : bytesBefore a.1 x.1 = true := by
        rcases Go.WideAt.bytes_total a.1 x.1 (hn a (by simp)) with h' | h'
        · exact h'
        · exact absurd h' hb
      refine List.pairwise_cons.2 ⟨fun y hy => ?_, ord_ins h.2 (fun y hy => hn y (by simp [hy]))⟩
      rcases mem_insF.1 hy with rfl | hy
      · exact hb'
      · exact h.1 y hy
theorem mem_delF {k : List UInt8} {A : Fs} {y : List UInt8 × Fl} : y ∈ delF k A ↔ y ∈ A ∧ y.1 ≠ k := by
  unfold delF
  rw [List.mem_filter]
  simp
theorem ord_del {A : Fs} (h : OrdF A) (k : List UInt8) : OrdF (delF k A) := List.Pairwise.filter _ h
theorem ord_put {A : Fs} (h : OrdF A) (k : List UInt8) (x : Fl) : OrdF (putF k x A) := ord_ins (ord_del h k) (fun y hy => (mem_delF.1 hy).2)
theorem mem_putF {k : List UInt8} {x : Fl} {A : Fs} {y : List UInt8 × Fl} : y ∈ putF k x A ↔ y = (k, x) ∨ (y ∈ A ∧ y.1 ≠ k) := by
  unfold putF
  rw [mem_insF, mem_delF]
theorem tot_ins (x : List UInt8 × Fl) : ∀ A : Fs, totF (insF x A) = x.2.bs.length + totF A
  | [] => by simp [insF, totF]
  | a :: A => by
    unfold insF
    split
    · simp [totF]
    · have := tot_ins x A
      simp only [totF, List.map_cons, List.sum_cons] at this ⊢
      omega
theorem len_ins (x : List UInt8 × Fl) : ∀ A : Fs, (insF x A).length = A.length + 1
  | [] => rfl
  | a :: A => by
    unfold insF
    split
    · simp
    · simp [len_ins x A]
theorem tot_del_le (k : List UInt8) : ∀ A : Fs, totF (delF k A) ≤ totF A
  | [] => by simp [delF, totF]
  | a :: A => by
    have := tot_del_le k A
    unfold delF at this ⊢
    rw [List.filter_cons]
    split <;> simp only [totF, List.map_cons, List.sum_cons] at this ⊢ <;> omega
theorem len_del_le (k : List UInt8) (A : Fs) : (delF k A).length ≤ A.length := List.length_filter_le _ _
theorem del_none {k : List UInt8} {A : Fs} (h : getF k A = none) : delF k A = A := by
  unfold delF
  refine List.filter_eq_self.2 (fun a ha => ?_)
  unfold getF at h
  rw [Option.map_eq_none_iff, List.find?_eq_none] at h
  have := h a ha
  simp only [beq_iff_eq] at this
  simp [this]
/-- one of the name is taken away, with its bytes -/
theorem del_some {k : List UInt8} {x : Fl} : ∀ {A : Fs}, getF k A = some x → totF (delF k A) + x.bs.length ≤ totF A ∧ (delF k A).length + 1 ≤ A.length
  | [], h => by simp [getF] at h
  | a :: A, h => by
    unfold getF at h
    rw [List.find?_cons] at h
    have ht : totF (a :: A) = a.2.bs.length + totF A := by simp [totF]
    split at h
    · rename_i hk
      simp only [Option.map_some, Option.some.injEq] at h
      have hd : delF k (a :: A) = delF k A := by
        unfold delF
        rw [List.filter_cons, hk]
        rfl
      rw [hd, ht, ← h, List.length_cons]
      have := tot_del_le k A
      have := len_del_le k A
      omega
    · rename_i hk
      have hd : delF k (a :: A) = a :: delF k A := by
        unfold delF
        rw [List.filter_cons, hk]
        rfl
      have h' := del_some (A := A) h
      have ht' : totF (a :: delF k A) = a.2.bs.length + totF (delF k A) := by simp [totF]
      rw [hd, ht, ht', List.length_cons, List.length_cons]
      omega
theorem get_mem {k : List UInt8} {x : Fl} {A : Fs} (h : getF k A = some x) : (k, x) ∈ A := by
  unfold getF at h
  obtain ⟨p, hp, rfl⟩ := Option.map_eq_some_iff.1 h
  have h1 := List.mem_of_find?_eq_some hp
  have h2 := List.find?_some hp
  simp only [beq_iff_eq] at h2
  rw [← h2]
  exact h1
theorem bytes_lt : ∀ {a b : List UInt8}, bytesBefore a b = true → a < b
  | [], [], h => by simp [bytesBefore] at h
  | [], b :: bs, _ => List.nil_lt_cons ..
  | a :: r, [], h => by simp [bytesBefore] at h
  | a :: r, b :: bs, h => by
    simp only [bytesBefore, Bool.or_eq_true, decide_eq_true_eq, Bool.and_eq_true, beq_iff_eq] at h
    rw [List.cons_lt_cons_iff]
    rcases h with h | ⟨h1, h2⟩
    · exact .inl h
    · exact .inr ⟨h1, bytes_lt h2⟩
/-- the names lie sorted -/
theorem names_sorted {A : Fs} (h : OrdF A) {ss : List (List UInt8)} (hp : ss.Perm (A.map (·.1))) : ss.mergeSort leB = A.map (·.1) := by
  rw [mergeSort_of_perm hp]
  refine List.mergeSort_of_pairwise (List.pairwise_map.2 (h.imp fun {x y} hxy => ?_))
  have := bytes_lt hxy
  show decide (x.1 ≤ y.1) = true
  rw [decide_eq_true_eq]
  exact List.le_of_lt this
/-- what holds of every disk that calls have made -/
structure Inv (K : Dk) : Prop where
  ord : OrdF K.A
  nm : ∀ p ∈ K.A, nameS ⟨p.1.toArray⟩ = true
  sy : ∀ p ∈ K.A, p.2.sy ≤ p.2.bs.length
  tot : (totF K.A : Int) ≤ K.cap
  cap1 : K.cap ≤ 1048576
  fu0 : -1 ≤ K.fuse
  fu1 : K.fuse ≤ 1048576
  many : K.A.length ≤ 64
theorem Inv.new {x f : Int} {b : Bool} (h : canBe 0 x = true) (hf : canBe (-1) f = true) : Inv ⟨x, [], f, b⟩ := by
  simp only [canBe, Bool.and_eq_true, decide_eq_true_eq] at h hf
  exact ⟨List.Pairwise.nil, fun p hp => (by cases hp), fun p hp => (by cases hp), by simp [totF]; exact h.1, h.2, hf.1, hf.2, by simp⟩
/-- how a changing call leaves what holds -/
theorem Inv.chg {K : Dk} (h : Inv K) (er : Int) (A' : Fs) (hA : er = 0 → Inv { K with A := A' }) : Inv (chgK K er A').1 := by
  have h0 := h.fu0
  have h1 := h.fu1
  unfold chgK
  split
  · exact h
  · split
    · exact h
    · rename_i he
      have he : er = 0 := by omega
      have h2 := hA he
      split
      · exact ⟨h.ord, h.nm, h.sy, h.tot, h.cap1, by simp, by simp, h.many⟩
      · refine ⟨h2.ord, h2.nm, h2.sy, h2.tot, h2.cap1, ?_, ?_, h2.many⟩
        · show -1 ≤ (if 0 < K.fuse then K.fuse - 1 else K.fuse)
          split <;> omega
        · show (if 0 < K.fuse then K.fuse - 1 else K.fuse) ≤ 1048576
          split <;> omega
theorem erF_zero {s : ByteArray} {K : Dk} (h : erF s K = 0) : nameS s = true ∧ ∃ x, getF s.data.toList K.A = some x := by
  unfold erF at h
  split at h
  · omega
  · rename_i h1
    split at h
    · rename_i h2
      exact ⟨by simpa using h1, Option.isSome_iff_exists.1 h2⟩
    · omega
/-- a file put -/
theorem Inv.put {K : Dk} (h : Inv K) (A : Fs) (hA : ∀ y ∈ A, y ∈ K.A) (hO : OrdF A) (s : ByteArray) (x : Fl) (hs : nameS s = true) (hx : x.sy ≤ x.bs.length) (ht : (totF (delF s.data.toList A) : Int) + x.bs.length ≤ K.cap) (hm : (delF s.data.toList A).length + 1 ≤ 64) : Inv { K with A := putF s.data.toList x A } := by
  refine ⟨ord_put hO _ _, fun p hp => ?_, fun p hp => ?_, ?_, h.cap1, h.fu0, h.fu1, ?_⟩
  · rcases mem_putF.1 hp with rfl | ⟨hp, _⟩
    · exact hs
    · exact h.nm p (hA p hp)
  · rcases mem_putF.1 hp with rfl | ⟨hp, _⟩
    · exact hx
    · exact h.sy p (hA p hp)
  · show (totF (insF _ _) : Int) ≤ K.cap
    rw [tot_ins]
    show ((x.bs.length + _ : Nat) : Int) ≤ _
    omega
  · show (insF _ _).length ≤ 64
    rw [len_ins]
    omega
theorem Inv.sync {K : Dk} (h : Inv K) (s : ByteArray) : Inv (chgK K (erF s K) (syncA s K)).1 := h.chg _ _ fun he => by
  obtain ⟨hn, x, hx⟩ := erF_zero he
  have hd := del_some hx
  have ht := h.tot
  have hm := h.many
  unfold syncA
  rw [hx]
  exact h.put K.A (fun _ h => h) h.ord s ⟨x.bs, x.bs.length⟩ hn (Nat.le_refl _) (by show _ + (x.bs.length : Int) ≤ _; omega) (by omega)
theorem Inv.create {K : Dk} (h : Inv K) (s : ByteArray) : Inv (chgK K (whyK s K) (newA s K)).1 := h.chg _ _ fun he => by
  unfold whyK at he
  split at he
  · omega
  · rename_i h1
    split at he
    · omega
    · rename_i h2
      split at he
      · omega
      · rename_i h3
        have hg : getF s.data.toList K.A = none := by simpa using h2
        have ht := h.tot
        unfold newA
        refine h.put K.A (fun _ h => h) h.ord s ⟨[], 0⟩ (by simpa using h1) (Nat.le_refl _) ?_ ?_ <;> rw [del_none hg]
        · simpa using ht
        · omega
theorem Inv.append {K : Dk} (h : Inv K) (s : ByteArray) (b2 : List UInt8) : Inv (chgK K (erA s b2 K) (appA s b2 K)).1 := h.chg _ _ fun he => by
  unfold erA at he
  split at he
  · omega
  · rename_i hno
    obtain ⟨hn, x, hx⟩ := erF_zero he
    have hd := del_some hx
    have ht := h.tot
    have hm := h.many
    have hsy := h.sy _ (get_mem hx)
    unfold appA
    rw [hx]
    have hroom : (b2.length : Int) ≤ K.cap - (totF K.A : Int) := by
      refine Int.not_lt.1 (fun h' => hno ⟨he, h'⟩)
    refine h.put K.A (fun _ h => h) h.ord s ⟨x.bs ++ b2, x.sy⟩ hn ?_ ?_ (by omega)
    · show x.sy ≤ (x.bs ++ b2).length
      rw [List.length_append]
      have : x.sy ≤ x.bs.length := hsy
      omega
    · show _ + ((x.bs ++ b2).length : Int) ≤ _
      rw [List.length_append]
      omega
theorem Inv.remove {K : Dk} (h : Inv K) (s : ByteArray) : Inv (chgK K (erF s K) (delF s.data.toList K.A)).1 := h.chg _ _ fun he => by
  have h1 := tot_del_le s.data.toList K.A
  have h2 := len_del_le s.data.toList K.A
  have ht := h.tot
  have hm := h.many
  exact ⟨ord_del h.ord _, fun p hp => h.nm p (mem_delF.1 hp).1, fun p hp => h.sy p (mem_delF.1 hp).1, by show (totF (delF _ _) : Int) ≤ K.cap; omega, h.cap1, h.fu0, h.fu1, by show (delF _ _).length ≤ _; omega⟩
theorem Inv.rename {K : Dk} (h : Inv K) (s t : ByteArray) : Inv (chgK K (erR s t K) (renA s t K)).1 := h.chg _ _ fun he => by
  unfold erR at he
  split at he
  · omega
  · rename_i h1
    obtain ⟨hn, x, hx⟩ := erF_zero he
    have hd := del_some hx
    have h2 := tot_del_le t.data.toList (delF s.data.toList K.A)
    have h3 := len_del_le t.data.toList (delF s.data.toList K.A)
    have ht := h.tot
    have hm := h.many
    unfold renA
    rw [hx]
    exact h.put (delF s.data.toList K.A) (fun y hy => (mem_delF.1 hy).1) (ord_del h.ord _) t x (by simpa using h1) (h.sy _ (get_mem hx)) (by omega) (by omega)
end Go.Proofs.Ytpeohbkigkfcgaa
