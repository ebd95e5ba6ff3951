/- All nodes, those that were left last first. -/
import Derived.Test.YtedleliddhhacaaSGat
import Derived.Test.YtedleliddhhacaaGPostW
namespace Go.Proofs.Ytedleliddhhacaa
open Go.RowKit Go.Maps Go.Shelf

/-- All numbers below one. -/
def allI (n : Nat) : List Int := (List.range n).map (fun x : Nat => (x : Int))
theorem edge_app {N : List (List Int)} {R : List Int} {a b : Nat} (ha : a ≠ N.length) (hb : b ≠ N.length) : Edge (N ++ [R]) a b ↔ Edge N a b := by
  have key : (N ++ [R])[a]? = N[a]? := by
    rcases Nat.lt_or_ge a N.length with h | h
    · rw [List.getElem?_append_left h]
    · rw [List.getElem?_eq_none (by simp; omega), List.getElem?_eq_none h]
  unfold Edge
  rw [key, List.length_append, List.length_singleton]
  constructor
  · rintro ⟨h1, h2⟩; exact ⟨by omega, h2⟩
  · rintro ⟨h1, h2⟩; exact ⟨by omega, h2⟩
theorem lead_post {L : List (List Int)} {o : List Nat} (h : PostOf (normL L ++ [allI L.length]) (L.length : Int) o) : ∃ o1, o = L.length :: o1 ∧ Lead L o1 := by
  have hM : (normL L ++ [allI L.length]).length = L.length + 1 := by simp [normL_len]
  have hE : ∀ a b, a ≠ L.length → b ≠ L.length → (Edge (normL (normL L ++ [allI L.length])) a b ↔ Edge L a b) := by
    intro a b ha hb
    rw [edge_norm, edge_app (by rw [normL_len]; exact ha) (by rw [normL_len]; exact hb), edge_norm]
  obtain ⟨s, hk⟩ := h
  generalize hl : [(L.length : Int)] = l at hk
  cases hk with
  | nil => cases hl
  | skip hs _ =>
    obtain ⟨rfl, rfl⟩ := List.cons.inj hl
    have := hs ⟨by omega, by rw [normL_len, hM]; omega⟩
    cases this
  | @go y ys r _ _ s1 o1 _ _ h1 h2 hr k1 k2 =>
    obtain ⟨e, rfl⟩ := List.cons.inj hl
    obtain rfl : L.length = y := Int.ofNat_inj.1 e
    cases k2
    obtain ⟨new, rfl, D⟩ := k1.dfs
    rw [List.append_nil]
    have hmr : ∀ x : Nat, x < L.length → (x : Int) ∈ r := by
      intro x hx
      have hr2 : (normL L ++ [allI L.length])[L.length]? = some (allI L.length) := by
        rw [List.getElem?_append_right (by rw [normL_len]; exact Nat.le_refl _), normL_len, Nat.sub_self]; rfl
      have := normL_at hr2
      rw [hr] at this
      obtain rfl := Option.some.inj this
      rw [mem_rowL, hM]
      exact ⟨List.mem_map.2 ⟨x, List.mem_range.2 hx, rfl⟩, by omega, by omega⟩
    have haw : ∀ a b, Av (normL (normL L ++ [allI L.length])) [L.length] a b → Way L a b := by
      intro a b hw
      induction hw with
      | refl g1 g2 => exact .refl (by rw [normL_len, hM] at g1; simp at g2; omega)
      | step g1 e g2 ih => exact .step ih ((hE _ _ (by simpa using g1.out.2) (by simpa using g2)).1 e)
    have hwa : ∀ a b, Way L a b → Av (normL (normL L ++ [allI L.length])) [L.length] a b := by
      intro a b hw
      induction hw with
      | refl g1 => exact .refl (by rw [normL_len, hM]; omega) (by simp; omega)
      | step g1 e ih => exact .step ih ((hE _ _ (by have := e.lt.1; omega) (by have := e.lt.2; omega)).2 e) (by have := e.lt.2; simp; omega)
    have hmem : ∀ x, x ∈ new ↔ x < L.length := by
      intro x
      constructor
      · intro hx
        obtain ⟨f, _, hw⟩ := D.from' x hx
        exact (haw _ _ hw).lt.2
      · intro hx
        have := D.all (x : Int) (hmr x hx) (by omega) (by rw [normL_len, hM]; omega)
        rw [Int.toNat_natCast] at this
        rcases (D.seen x).1 this with h | h
        · exact h
        · simp at h; omega
    refine ⟨new, rfl, D.nodup, hmem, fun x f hw => ?_⟩
    obtain ⟨z, hz, g1, g2, g3⟩ := D.first x f ((hmem x).2 hw.lt.1) ((hmem f).2 hw.lt.2) (hwa _ _ hw)
    exact ⟨z, ⟨haw _ _ g1, haw _ _ g2⟩, g3⟩

set_option maxRecDepth 20000 in
theorem clone_any {w : World} {v : Value} {ad : Addr} {n cap : Nat} {vs : List Value} (hv : v = .slice (some ad) n cap) (h : Rd w v vs) (h1 : ∀ u ∈ vs, u.oneCell' = true) (hn : vs.length ≤ 100000) :
    Calls Try.prog 49 #[v] w fun e w' => ∃ v', e = .returned v' ∧ w'.ownsRow w.heap.size 45 1 v' vs.length vs ∧ Below w.heap.size w w' := by
  subst hv
  obtain ⟨i0, hi0, hz0, hz1, hz2⟩ := info_parts infoL1
  have qT : ∀ (w : World) (a : Option Addr) (n c n' c' : Nat), (binOp .eql 34 (.slice a n c) (.slice none n' c')).run Try.prog w = .ok (.bool a.isNone) w := fun w a n c n' c' => Lib.run_eql_slice_nil w _ _ a n c n' c' Try.underlying34
  have hrd := Lib.hid h
  have hso := Lib.hid h1
  clear h h1
  go_enter Try.func49, Try.ntmps49
  have hown0 : (w.alloc (.cells #[] 45)).ownsRow w.heap.size 45 1 (.slice (some ⟨w.heap.size, 0, none⟩) 0 0) 0 [] :=
    ⟨rfl, .inr ⟨w.heap.size, 0, #[], rfl, Nat.le_refl _, heap_alloc_new w _, Nat.le_refl _, by decide, rfl, rfl⟩⟩
  have hb0 : Below w.heap.size w (w.alloc (.cells #[] 45)) := (Below.refl _ _).alloc (Nat.le_refl _) _
  have hrd0 : Rd (w.alloc (.cells #[] 45)) (.slice (some ad) n cap) vs := hrd.out.below hb0
  go_wp2_with (at_builtin; go_loud (refine wpList_append_rd _ rfl _ _ 34 rfl w.heap.size 45 i0 (.slice none 0 0) 24 Try.underlying34 hi0 hz0 hz1 hz2 rfl _ 0 [] rfl hown0 _ vs rfl hrd0 hso.out (by unfold maxLen; simp <;> omega) (by simp <;> omega) (by exact hb0.size) ?_))
  intro v' w2 hown2 hgrow hat
  have hb2 : Below w.heap.size w w2 := hb0.trans (Touch.below (Touch.of_grown hgrow (fun k hk => hk)) hb0.size (fun b hb e => by simp [Value.ownBlock] at e; omega))
  clear hgrow hat hown0 hrd0
  go_wp2_with fail
  go_ret
  exact ⟨v', rfl, hown2, hb2⟩
end Go.Proofs.Ytedleliddhhacaa
