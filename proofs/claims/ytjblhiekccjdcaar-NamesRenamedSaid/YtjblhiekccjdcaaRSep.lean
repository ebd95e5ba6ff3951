/- Rows within rows: what a thing reads as wherever none but some blocks turn. -/
import Derived.Test.YtjblhiekccjdcaaROwnE
namespace Go.Proofs.YtjblhiekccjdcaaR
open Go.RowKit Go.Maps

theorem Touch.then {a b c : World} {S S' : Nat → Prop} (h : Touch a b S) (g : Touch b c S') (hs : ∀ k, k < a.heap.size → S' k → S k) : Touch a c S :=
  ⟨g.os.trans h.os, g.tape.trans h.tape, g.output.trans h.output, Nat.le_trans h.size g.size, fun k hk hn => (g.block k (Nat.lt_of_lt_of_le hk h.size) (fun s => hn (hs k hk s))).trans (h.block k hk hn)⟩
section
variable {α : Type} {c : Nat} {R R' : World → List Value → α → Prop} {w w' : World} {base : Nat} {e : TypeId} {v : Value} {L : List α} {No No' : Nat → Prop}
/-- It reads so, whatever becomes of the blocks of No. -/
def Away (No : Nat → Prop) (R : World → List Value → α → Prop) (w : World) (cs : List Value) (d : α) : Prop := ∀ w', Touch w w' No → R w' cs d
theorem Away.rd {cs : List Value} {d : α} (h : Away No R w cs d) : R w cs d := h w (Touch.refl _ _)
theorem Away.move {cs : List Value} {d : α} (h : Away No R w cs d) (t : Touch w w' No) (hs : ∀ k, k < w.heap.size → No' k → No k) : Away No' R w' cs d := fun _ t' => h _ (t.then t' hs)
theorem OwnE.imp (h : OwnE c R w base e v L) (hR : ∀ cs d, R w cs d → R' w cs d) : OwnE c R' w base e v L := by
  obtain ⟨xs, h1, h2⟩ := h
  exact ⟨xs, h1, fun i d hi => by obtain ⟨cs, k1, k2, k3⟩ := h2 i d hi; exact ⟨cs, hR cs d k1, k2, k3⟩⟩
theorem RdE.imp (h : RdE c R w v L) (hR : ∀ cs d, R w cs d → R' w cs d) : RdE c R' w v L := by
  refine or_map h id ?_
  rintro ⟨b, off, cap, e, hlt, hc⟩
  refine ⟨b, off, cap, e, hlt, fun i d hi => ?_⟩
  obtain ⟨cs, h1, h2, h3⟩ := hc i d hi
  exact ⟨cs, hR cs d h1, h2, h3⟩
/-- A row of one's own, with things that other turns don't reach, in a later world. -/
theorem OwnE.move (h : OwnE c (Away No R) w base e v L) (t : Touch w w' No) (hv : ∀ g, v.ownBlock = some g → ¬ No g) (hs : ∀ k, k < w.heap.size → No' k → No k) : OwnE c (Away No' R) w' base e v L := by
  obtain ⟨xs, h1, h2⟩ := h
  exact ⟨xs, ownsRow_touch h1 t hv, fun i d hi => by obtain ⟨cs, k1, k2, k3⟩ := h2 i d hi; exact ⟨cs, k1.move t hs, k2, k3⟩⟩
/-- A row of one's own stays where others turn; its things are away from its own block, and from those that turn. -/
theorem OwnE.go {B : Nat → Prop} (h : OwnE c (Away (fun k => v.ownBlock = some k ∨ B k) R) w base e v L) (t : Touch w w' B) (hv : ∀ g, v.ownBlock = some g → ¬ B g) : OwnE c (Away (fun k => v.ownBlock = some k ∨ B k) R) w' base e v L := by
  obtain ⟨xs, h1, h2⟩ := h
  exact ⟨xs, ownsRow_touch h1 t hv, fun i d hi => by obtain ⟨cs, k1, k2, k3⟩ := h2 i d hi; exact ⟨cs, k1.move (t.mono fun k _ hk => .inr hk) (fun k _ hk => hk), k2, k3⟩⟩
theorem OwnE.to {B : Nat → Prop} (h : OwnE c (Away (fun k => v.ownBlock = some k ∨ B k) R) w base e v L) (t : Touch w w' No) (hv : ∀ g, v.ownBlock = some g → ¬ No g) (hs : ∀ k, k < w.heap.size → No k → B k) : RdE c R w' v L := by
  obtain ⟨xs, h1, h2⟩ := h
  exact OwnE.rd (base := base) (e := e) ⟨xs, ownsRow_touch h1 t hv, fun i d hi => by obtain ⟨cs, k1, k2, k3⟩ := h2 i d hi; exact ⟨cs, k1 _ (t.mono fun k hk hn => .inr (hs k hk hn)), k2, k3⟩⟩
theorem oneCell_of {cs : List Value} (h : ∀ u ∈ cs, u.oneCell' = true) : ∀ u ∈ cs, u.oneCell' = true := h
/-- append, of a slice of things that are away, onto a row of one's own whose things are away. -/
theorem wpList_append_away {P : Program} {ops : Array Oper} {rest : List Oper} {o : Oper} {a : Act} {Q : Exit → Act → World → Prop} (w : World) (hgd : o.guard = none) (s x : Operand) (t : TypeId)
    (ho : o.op = .call { callee := .builtin .append, args := #[s, x], argTypes := #[t, t] })
    (base : Nat) (e : TypeId) (i : TypeInfo) (z : Value) (bytes : Nat) (ht : P.underlying t = some (.slice e)) (hi : P.info? e = some i) (hz : i.zero = some z)
    (hsize : i.size = c) (hby : i.bytes = bytes) (hzs : z.cells.size = c) (hc0 : 0 < c) (B : Nat → Prop)
    (v : Value) (L : List α) (hs : a.eval s = v) (hown : OwnE c (Away (fun k => v.ownBlock = some k ∨ B k) R) w base e v L)
    (sv : Value) (M : List α) (hx : a.eval x = sv) (hrd : RdE c (Away (fun k => v.ownBlock = some k ∨ B k) R) w sv M) (h1 : ∀ w cs d, R w cs d → ∀ u ∈ cs, u.oneCell' = true)
    (h63 : L.length + M.length ≤ maxLen) (hbytes : (L.length + M.length) * bytes ≤ 140737488355328) (hbase : base ≤ w.heap.size)
    (h : ∀ v' w', OwnE c (Away (fun k => v'.ownBlock = some k ∨ B k) R) w' base e v' (L ++ M) → Touch w w' (fun k => v.ownBlock = some k) → (v'.ownBlock = v.ownBlock ∨ v'.ownBlock = some w.heap.size) → wpList P ops Q rest (a.put o.dst v') w') :
    wpList P ops Q (o :: rest) a w := by
  have hup : ∀ cs d, Away (fun k => v.ownBlock = some k ∨ B k) R w cs d → Touch w w (fun k => v.ownBlock = some k ∨ B k) ∧ Away (fun k => v.ownBlock = some k ∨ B k) R w cs d := fun cs d h => ⟨Touch.refl _ _, h⟩
  refine wpList_append_rde (R := fun w' cs d => Touch w w' (fun k => v.ownBlock = some k ∨ B k) ∧ Away (fun k => v.ownBlock = some k ∨ B k) R w cs d) w hgd s x t ho base e i z bytes ht hi hz hsize hby hzs hc0 v L hs (OwnE.imp hown hup) sv M hx (RdE.imp hrd hup) (fun cs d k u hu => h1 w cs d k.2.rd u hu) h63 hbytes hbase (fun w' cs d t k => ⟨k.1.trans (t.mono fun k _ hk => .inl hk), k.2⟩) ?_
  intro v' w' k1 k2 k3
  refine h v' w' (OwnE.imp k1 fun cs d hk => hk.2.move hk.1 fun k hlt hk' => ?_) k2 k3
  rcases hk' with hk' | hk'
  · rcases k3 with e3 | e3
    · exact .inl (e3 ▸ hk')
    · rw [e3, Option.some.injEq] at hk'
      omega
  · exact .inr hk'
end

end Go.Proofs.YtjblhiekccjdcaaR
