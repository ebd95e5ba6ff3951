/- List. -/
import Derived.Test.YtdpmpppafkefoaaRound
import Derived.Laws.MakeOwn
import Derived.Deep.AppendLies
namespace Go.Proofs.Ytdpmpppafkefoaa
open Go.RowKit Go.Maps Go.Sort Go.Shelf

attribute [local go_sem] Oper.semAt_some

def encN (n : Nat) : Value := .int .i64 (n : Int)

theorem infoI : (Try.prog.info? 3).map (fun i => (i.zero, i.size, i.bytes)) = some (some (.int .i64 0), 1, 8) := by kernel_rfl

/-- What has been taken up of the words that came. -/
def took (pre : List (Nat × Nat)) : List Nat := pre.flatMap (fun x => nums (x.1 % 144115188075855872) (x.2 % 18446744073709551616))
theorem flatMap_same {α β : Type} {f g : α → List β} : ∀ {l : List α}, (∀ x ∈ l, f x = g x) → l.flatMap f = l.flatMap g
  | [], _ => rfl
  | x :: r, h => by
    rw [List.flatMap_cons, List.flatMap_cons, h x (by simp), flatMap_same (fun y hy => h y (by simp [hy]))]
theorem took_snoc (pre : List (Nat × Nat)) (x : Nat × Nat) : took (pre ++ [x]) = took pre ++ nums (x.1 % 144115188075855872) (x.2 % 18446744073709551616) := by simp [took]
theorem took_len (pre : List (Nat × Nat)) : (took pre).length ≤ 64 * pre.length := by
  refine snoc_ind (Q := fun pre => (took pre).length ≤ 64 * pre.length) (by simp [took]) (fun l x ih => ?_) pre
  rw [took_snoc, List.length_append, len_nums, List.length_append, List.length_singleton]
  have := cnt_le (x.2 % 18446744073709551616)
  omega

/-- append, as one step of a region that draws. -/
theorem step_append {P : Program} {ops : Array Oper} {o : Oper} {a : Act} {w : World} {K : Act → World → Prop} {Q : Exit → Act → World → Prop} {E : Prop} (hg : o.guard = none) (s x : Operand) (t ty : TypeId)
    (ho : o.op = .call { callee := .builtin .append, args := #[s, x], argTypes := #[t, t] }) (hty : o.type = ty) (u1 u2 : Value) {v : Value} {w' : World} (hs : a.eval s = u1) (hx : a.eval x = u2)
    (hr : (Builtin.append_ #[t, t] ty #[u1, u2]).run P w = .ok v w') (hK : K (a.put o.dst v) w') : if Region.wanted o (yielded ops a.tmps) = true then Oper.wp P o a w K Q else E := by
  have hw : Region.wanted o (yielded ops a.tmps) = true := by simp [Region.wanted, hg]
  rw [if_pos hw]
  subst hty
  unfold Oper.wp execOp
  simp only [ho, resolve, invoke, builtin, Sem.run_bind, Sem.run_pure, Result.andThen_ok, List.map_toArray, List.map_cons, List.map_nil, hs, hx, hr]
  exact hK

theorem kp_appended {Bo n1 g n cap : Nat} {v : Value} {wr w2 : World} {tmp : Obj} (hv : Boxed wr Bo 22 v) (hv2 : Boxed (w2.setCell ⟨Bo, 0, none⟩ (.slice (some ⟨g, 0, none⟩) n cap)) Bo 22 (.slice (some ⟨g, 0, none⟩) n cap)) (hg : (wr.drew.alloc tmp).grownBy w2 v.ownBlock)
    (hloc : v.ownBlock = some g ∨ g = (wr.drew.alloc tmp).heap.size) : Kp Bo n1 wr (w2.setCell ⟨Bo, 0, none⟩ (.slice (some ⟨g, 0, none⟩) n cap)) := by
  have hr : rowOf Bo wr = v.ownBlock := by unfold rowOf; rw [hv.cell]; rfl
  have hs : wr.heap.size + 1 ≤ w2.heap.size := by have := hg.size; rw [World.size_alloc] at this; exact this
  refine ⟨by rw [World.size_setCell]; omega, fun k o hk h1 h2 _ => ?_, fun b hb => ?_⟩
  · have hlt := (Array.getElem?_eq_some_iff.1 hk).1
    rw [Below.heap_setCell _ _ _ _ h1, hg.block k (by rw [World.size_alloc]; show k < wr.heap.size + 1; omega) (fun e => h2 (hr.trans e.symm))]
    exact (Below.heap_alloc wr.drew tmp k hlt).trans hk
  · have h3 : rowOf Bo (w2.setCell ⟨Bo, 0, none⟩ (.slice (some ⟨g, 0, none⟩) n cap)) = some g := by unfold rowOf; rw [hv2.cell]; rfl
    rw [h3] at hb
    cases hb
    rcases hloc with h | h
    · exact Or.inl (hr.trans h)
    · right
      rw [h, World.size_alloc]
      show wr.heap.size ≤ wr.heap.size + 1
      omega

section
variable {w : World} {sb bm : Nat} {D : DataW Unit} {l : List Nat}

end
end Go.Proofs.Ytdpmpppafkefoaa
