/- Rows of structs that a call makes: append. -/
import Derived.Test.YtjblhiekccjdcaaRApi
namespace Go.Proofs.YtjblhiekccjdcaaR
open Go.RowKit Go.Maps

/-- A row of one's own that reads as these elements. -/
def OwnE {α : Type} (c : Nat) (R : World → List Value → α → Prop) (w : World) (base : Nat) (e : TypeId) (v : Value) (L : List α) : Prop :=
  ∃ xs, w.ownsRow base e c v L.length xs ∧ ∀ i d, L[i]? = some d → ∃ cs, R w cs d ∧ cs.length = c ∧ ∀ j u, cs[j]? = some u → xs[i * c + j]? = some u
section
variable {α : Type} {c : Nat} {R : World → List Value → α → Prop} {w w' : World} {base : Nat} {e : TypeId} {v : Value} {L : List α}
theorem OwnE.nil (w : World) (base : Nat) (e : TypeId) : OwnE c R w base e (.slice none 0 0) [] := ⟨[], World.ownsRow_nil _ _ _ _, fun i d h => by simp at h⟩
theorem OwnE.rd (h : OwnE c R w base e v L) : RdE c R w v L := by
  obtain ⟨xs, h1, h2⟩ := h
  rcases h1.2 with ⟨rfl, h0⟩ | ⟨g, cap, cur, rfl, -⟩
  · exact .inl ⟨List.eq_nil_of_length_eq_zero h0, .inl rfl⟩
  · refine .inr ⟨g, 0, cap, rfl, (h1.lt g rfl).2, fun i d hi => ?_⟩
    obtain ⟨cs, k1, k2, k3⟩ := h2 i d hi
    refine ⟨cs, k1, k2, fun j u hj => ?_⟩
    have := h1.cells (g := g) rfl _ u (k3 j u hj)
    rw [add0] at this
    rw [Nat.zero_add]
    exact this
theorem OwnE.form (h : OwnE c R w base e v L) : ∃ a k, v = .slice a L.length k := by
  obtain ⟨xs, h1, h2⟩ := h
  rcases h1.2 with ⟨rfl, h0⟩ | ⟨g, cap, cur, rfl, -⟩
  · exact ⟨none, 0, by rw [h0]⟩
  · exact ⟨_, cap, rfl⟩
theorem OwnE.lt (h : OwnE c R w base e v L) : ∀ g, v.ownBlock = some g → base ≤ g ∧ g < w.heap.size := by
  obtain ⟨xs, h1, h2⟩ := h
  exact fun g hg => h1.lt g hg
theorem OwnE.touch {S : Nat → Prop} (h : OwnE c R w base e v L) (hT : Touch w w' S) (hS : ∀ g, v.ownBlock = some g → ¬ S g) (hR : ∀ cs d, R w cs d → R w' cs d) : OwnE c R w' base e v L := by
  obtain ⟨xs, h1, h2⟩ := h
  refine ⟨xs, ⟨h1.1, ?_⟩, fun i d hi => ?_⟩
  · rcases h1.2 with ⟨rfl, h0⟩ | ⟨g, cap, cur, rfl, k1, k2, k3⟩
    · exact .inl ⟨rfl, h0⟩
    · exact .inr ⟨g, cap, cur, rfl, k1, (hT.block g (Array.getElem?_eq_some_iff.1 k2).1 (hS g rfl)).trans k2, k3⟩
  · obtain ⟨cs, k1, k2, k3⟩ := h2 i d hi
    exact ⟨cs, hR cs d k1, k2, k3⟩
theorem RdE.flat (h : RdE c R w v L) : v = .slice none 0 0 ∧ L = [] ∨ ∃ (ad : Addr) (k : Nat) (news : List Value), v = .slice (some ad) L.length k ∧ news.length = L.length * c ∧ (∀ j u, news[j]? = some u → w.cell? (ad.add j) = some u) ∧
    (∀ i d, L[i]? = some d → ∃ cs, R w cs d ∧ cs.length = c ∧ ∀ j u, cs[j]? = some u → news[i * c + j]? = some u) ∧ ∀ u ∈ news, ∃ cs d, R w cs d ∧ u ∈ cs := by
  rcases h with ⟨rfl, rfl | ⟨a, k, rfl⟩⟩ | ⟨b, off, cap, rfl, hlt, hc⟩
  · exact .inl ⟨rfl, rfl⟩
  · exact .inr ⟨a, k, [], rfl, by simp, fun j u h => by simp at h, fun i d h => by simp at h, fun u h => by simp at h⟩
  · refine .inr ⟨⟨b, off, none⟩, cap, ?_⟩
    have key : ∀ n, n ≤ L.length → ∃ news : List Value, news.length = n * c ∧ (∀ j u, news[j]? = some u → w.cell? ⟨b, off + j, none⟩ = some u) ∧
        (∀ i d, i < n → L[i]? = some d → ∃ cs, R w cs d ∧ cs.length = c ∧ ∀ j u, cs[j]? = some u → news[i * c + j]? = some u) ∧ ∀ u ∈ news, ∃ cs d, R w cs d ∧ u ∈ cs := by
      intro n
      induction n with
      | zero => intro _; exact ⟨[], by simp, fun j u h => by simp at h, fun i d h => by omega, fun u h => by simp at h⟩
      | succ n ih =>
        intro hn
        obtain ⟨news, k1, k2, k3, k4⟩ := ih (by omega)
        obtain ⟨d, hd⟩ : ∃ d, L[n]? = some d := ⟨_, List.getElem?_eq_getElem (by omega)⟩
        obtain ⟨cs, m1, m2, m3⟩ := hc n d hd
        refine ⟨news ++ cs, by rw [List.length_append, k1, m2, Nat.succ_mul], fun j u hj => ?_, fun i d' hi hd' => ?_, fun u hu => ?_⟩
        · rcases Nat.lt_or_ge j news.length with h | h
          · rw [List.getElem?_append_left h] at hj
            exact k2 j u hj
          · rw [List.getElem?_append_right h] at hj
            have := m3 _ u hj
            rw [k1] at this h
            rw [show off + j = off + n * c + (j - n * c) by omega]
            exact this
        · by_cases e : i = n
          · subst e
            rw [hd] at hd'
            cases hd'
            refine ⟨cs, m1, m2, fun j u hj => ?_⟩
            rw [List.getElem?_append_right (by omega), k1, show i * c + j - i * c = j by omega]
            exact hj
          · obtain ⟨cs', n1, n2, n3⟩ := k3 i d' (by omega) hd'
            refine ⟨cs', n1, n2, fun j u hj => ?_⟩
            have := n3 j u hj
            rw [List.getElem?_append_left (List.getElem?_eq_some_iff.1 this).1]
            exact this
        · rcases List.mem_append.1 hu with h | h
          · exact k4 u h
          · exact ⟨cs, d, m1, h⟩
    obtain ⟨news, k1, k2, k3, k4⟩ := key L.length (Nat.le_refl _)
    refine ⟨news, rfl, k1, fun j u hj => ?_, fun i d hd => k3 i d (List.getElem?_eq_some_iff.1 hd).1 hd, k4⟩
    have e2 : (⟨b, off, none⟩ : Addr).add j = ⟨b, off + j, none⟩ := by
      unfold Addr.add
      split <;> simp_all
    rw [e2]
    exact k2 j u hj
/-- append, of a slice that reads, onto a row of one's own. -/
theorem wpList_append_rde {P : Program} {ops : Array Oper} {rest : List Oper} {o : Oper} {a : Act} {Q : Exit → Act → World → Prop} (w : World) (hgd : o.guard = none) (s x : Operand) (t : TypeId)
    (ho : o.op = .call { callee := .builtin .append, args := #[s, x], argTypes := #[t, t] })
    (base : Nat) (e : TypeId) (i : TypeInfo) (z : Value) (bytes : Nat) (ht : P.underlying t = some (.slice e)) (hi : P.info? e = some i) (hz : i.zero = some z)
    (hsize : i.size = c) (hby : i.bytes = bytes) (hzs : z.cells.size = c) (hc0 : 0 < c)
    (v : Value) (L : List α) (hs : a.eval s = v) (hown : OwnE c R w base e v L)
    (sv : Value) (M : List α) (hx : a.eval x = sv) (hrd : RdE c R w sv M) (h1 : ∀ cs d, R w cs d → ∀ u ∈ cs, u.oneCell' = true)
    (h63 : L.length + M.length ≤ maxLen) (hbytes : (L.length + M.length) * bytes ≤ 140737488355328) (hbase : base ≤ w.heap.size)
    (hR : ∀ w' cs d, Touch w w' (fun k => v.ownBlock = some k) → R w cs d → R w' cs d)
    (h : ∀ v' w', OwnE c R w' base e v' (L ++ M) → Touch w w' (fun k => v.ownBlock = some k) → (v'.ownBlock = v.ownBlock ∨ v'.ownBlock = some w.heap.size) → wpList P ops Q rest (a.put o.dst v') w') :
    wpList P ops Q (o :: rest) a w := by
  obtain ⟨xs, hxs, hxr⟩ := hown
  have hxl := hxs.1
  rcases hrd.flat with ⟨rfl, rfl⟩ | ⟨ad, k, news, rfl, k1, k2, k3, k4⟩
  · exact wpList_append_own_none (w := w) hgd s x t ho base e i c ht hi v L.length xs hs hxs hx (h v w (by rw [List.append_nil]; exact ⟨xs, hxs, hxr⟩) (Touch.refl _ _) (Or.inl rfl))
  · refine wpList_append_own_at w hgd s x t ho base e i z c bytes ht hi hz hsize hby hzs hc0 v L.length xs hs hxs ad M.length k news hx k1 k2 (fun u hu => by obtain ⟨cs, d, hr, hm⟩ := k4 u hu; exact h1 cs d hr u hm) h63 hbytes hbase ?_
    intro v' w' h2 h3 _ h4
    have hT : Touch w w' (fun k => v.ownBlock = some k) := Touch.of_grown h3 (fun k e => e)
    refine h v' w' ⟨xs ++ news, by rw [List.length_append]; exact h2, fun i' d hd => ?_⟩ hT h4
    rcases Nat.lt_or_ge i' L.length with hlt | hge
    · rw [List.getElem?_append_left hlt] at hd
      obtain ⟨cs, m1, m2, m3⟩ := hxr i' d hd
      refine ⟨cs, hR w' cs d hT m1, m2, fun j u hj => ?_⟩
      have := m3 j u hj
      rw [List.getElem?_append_left (List.getElem?_eq_some_iff.1 this).1]
      exact this
    · rw [List.getElem?_append_right hge] at hd
      obtain ⟨cs, m1, m2, m3⟩ := k3 _ d hd
      refine ⟨cs, hR w' cs d hT m1, m2, fun j u hj => ?_⟩
      have h5 : i' * c = L.length * c + (i' - L.length) * c := by rw [← Nat.add_mul]; congr 1; omega
      rw [List.getElem?_append_right (by omega), hxl, show i' * c + j - L.length * c = (i' - L.length) * c + j by omega]
      exact m3 j u hj
end
end Go.Proofs.YtjblhiekccjdcaaR
