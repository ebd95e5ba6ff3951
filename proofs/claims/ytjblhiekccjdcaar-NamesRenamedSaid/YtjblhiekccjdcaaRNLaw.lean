/- names: what the laws ask besides. -/
import Derived.Test.YtjblhiekccjdcaaRNCheck
namespace Go.Proofs.YtjblhiekccjdcaaR
open Go.RowKit Go.Maps Go.Shelf

theorem rde_block {α : Type} {c : Nat} {R : World → List Value → α → Prop} {w : World} {b n : Nat} {t : TypeId} {cs : Array Value} {L : List α} (h : w.heap[b]? = some (.cells cs t (0, 0))) (hn : n = L.length) (hL : ∀ i d, L[i]? = some d → ∃ l, R w l d ∧ l.length = c ∧ ∀ j u, l[j]? = some u → cs[i * c + j]? = some u) : RdE c R w (.slice (some ⟨b, 0, none⟩) n n) L := by
  subst hn
  refine .inr ⟨b, 0, _, rfl, (Array.getElem?_eq_some_iff.1 h).1, fun i d hi => ?_⟩
  obtain ⟨l, h1, h2, h3⟩ := hL i d hi
  exact ⟨l, h1, h2, fun j u hj => by rw [blk_cell h, Nat.zero_add]; exact h3 j u hj⟩
def nullS : ByteArray := ⟨#[]⟩
/-- The known program. -/
def kP : List Fun := [⟨⟨#[109, 97, 105, 110]⟩, [], [⟨⟨#[108]⟩, [⟨3, ⟨#[97]⟩, nullS, nullS, 0, nullS, [], []⟩, ⟨5, ⟨#[98]⟩, ⟨#[99]⟩, nullS, 0, nullS, [], []⟩, ⟨14, nullS, nullS, nullS, 0, nullS, [], []⟩]⟩]⟩]
theorem kP_wrong : wrongOf kP = (16, (0, 0, 1)) := by decide +kernel
theorem kP_ok : POkA kP := by
  refine ⟨⟨?_, ?_, ?_, ?_, ?_⟩, ?_⟩
  · simp [kP, Fun.Fits, Blk.Fits, Ins.Fits, nullS, maxLen]
    decide
  all_goals simp [kP]
theorem isK1 : isName ⟨#[97, 46, 49]⟩ = true := by decide +kernel
theorem isK2 : isName ⟨#[110, 117, 108, 108]⟩ = false := by decide +kernel
theorem at_row {cs : Array Value} {l : List Value} {k n : Nat} (h : (cs.toList.drop k).take n = l) {j : Nat} {u : Value} (hj : l[j]? = some u) : cs[k + j]? = some u := by
  subst h
  rw [List.getElem?_take] at hj
  split at hj
  · rw [List.getElem?_drop] at hj
    simpa using hj
  · cases hj
theorem one_at {α : Type} {x d : α} {i : Nat} (h : [x][i]? = some d) : i = 0 ∧ d = x := by
  match i, h with
  | 0, h => exact ⟨rfl, (Option.some.inj h).symm⟩
theorem kP_read (w : World) : RdE 3 RdFun ((((w.alloc (.cells #[.int .u8 3, .string ⟨#[97]⟩, .string ⟨#[]⟩, .string ⟨#[]⟩, .int .i64 0, .string ⟨#[]⟩, .slice none 0 0, .slice none 0 0, .int .u8 5, .string ⟨#[98]⟩, .string ⟨#[99]⟩, .string ⟨#[]⟩, .int .i64 0, .string ⟨#[]⟩, .slice none 0 0, .slice none 0 0, .int .u8 14, .string ⟨#[]⟩, .string ⟨#[]⟩, .string ⟨#[]⟩, .int .i64 0, .string ⟨#[]⟩, .slice none 0 0, .slice none 0 0] 47)).alloc (.cells #[.string ⟨#[108]⟩, .slice (some ⟨w.heap.size, 0, none⟩) 3 3] 43)).alloc (.cells #[.string ⟨#[109, 97, 105, 110]⟩, .slice none 0 0, .slice (some ⟨w.heap.size + 1, 0, none⟩) 1 1] 39)).alloc (.cells #[.slice (some ⟨w.heap.size + 1 + 1, 0, none⟩) 1 1] 26)) (.slice (some ⟨w.heap.size + 1 + 1, 0, none⟩) 1 1) kP := by
  have h0 : ((((w.alloc (.cells #[.int .u8 3, .string ⟨#[97]⟩, .string ⟨#[]⟩, .string ⟨#[]⟩, .int .i64 0, .string ⟨#[]⟩, .slice none 0 0, .slice none 0 0, .int .u8 5, .string ⟨#[98]⟩, .string ⟨#[99]⟩, .string ⟨#[]⟩, .int .i64 0, .string ⟨#[]⟩, .slice none 0 0, .slice none 0 0, .int .u8 14, .string ⟨#[]⟩, .string ⟨#[]⟩, .string ⟨#[]⟩, .int .i64 0, .string ⟨#[]⟩, .slice none 0 0, .slice none 0 0] 47)).alloc (.cells #[.string ⟨#[108]⟩, .slice (some ⟨w.heap.size, 0, none⟩) 3 3] 43)).alloc (.cells #[.string ⟨#[109, 97, 105, 110]⟩, .slice none 0 0, .slice (some ⟨w.heap.size + 1, 0, none⟩) 1 1] 39)).alloc (.cells #[.slice (some ⟨w.heap.size + 1 + 1, 0, none⟩) 1 1] 26)).heap[w.heap.size]? = some (.cells #[.int .u8 3, .string ⟨#[97]⟩, .string ⟨#[]⟩, .string ⟨#[]⟩, .int .i64 0, .string ⟨#[]⟩, .slice none 0 0, .slice none 0 0, .int .u8 5, .string ⟨#[98]⟩, .string ⟨#[99]⟩, .string ⟨#[]⟩, .int .i64 0, .string ⟨#[]⟩, .slice none 0 0, .slice none 0 0, .int .u8 14, .string ⟨#[]⟩, .string ⟨#[]⟩, .string ⟨#[]⟩, .int .i64 0, .string ⟨#[]⟩, .slice none 0 0, .slice none 0 0] 47 (0, 0)) := at_oldN (at_oldN (at_oldN (at_newN rfl)))
  have h1 : ((((w.alloc (.cells #[.int .u8 3, .string ⟨#[97]⟩, .string ⟨#[]⟩, .string ⟨#[]⟩, .int .i64 0, .string ⟨#[]⟩, .slice none 0 0, .slice none 0 0, .int .u8 5, .string ⟨#[98]⟩, .string ⟨#[99]⟩, .string ⟨#[]⟩, .int .i64 0, .string ⟨#[]⟩, .slice none 0 0, .slice none 0 0, .int .u8 14, .string ⟨#[]⟩, .string ⟨#[]⟩, .string ⟨#[]⟩, .int .i64 0, .string ⟨#[]⟩, .slice none 0 0, .slice none 0 0] 47)).alloc (.cells #[.string ⟨#[108]⟩, .slice (some ⟨w.heap.size, 0, none⟩) 3 3] 43)).alloc (.cells #[.string ⟨#[109, 97, 105, 110]⟩, .slice none 0 0, .slice (some ⟨w.heap.size + 1, 0, none⟩) 1 1] 39)).alloc (.cells #[.slice (some ⟨w.heap.size + 1 + 1, 0, none⟩) 1 1] 26)).heap[w.heap.size + 1]? = some (.cells #[.string ⟨#[108]⟩, .slice (some ⟨w.heap.size, 0, none⟩) 3 3] 43 (0, 0)) := at_oldN (at_oldN (at_newN (by simp)))
  have h2 : ((((w.alloc (.cells #[.int .u8 3, .string ⟨#[97]⟩, .string ⟨#[]⟩, .string ⟨#[]⟩, .int .i64 0, .string ⟨#[]⟩, .slice none 0 0, .slice none 0 0, .int .u8 5, .string ⟨#[98]⟩, .string ⟨#[99]⟩, .string ⟨#[]⟩, .int .i64 0, .string ⟨#[]⟩, .slice none 0 0, .slice none 0 0, .int .u8 14, .string ⟨#[]⟩, .string ⟨#[]⟩, .string ⟨#[]⟩, .int .i64 0, .string ⟨#[]⟩, .slice none 0 0, .slice none 0 0] 47)).alloc (.cells #[.string ⟨#[108]⟩, .slice (some ⟨w.heap.size, 0, none⟩) 3 3] 43)).alloc (.cells #[.string ⟨#[109, 97, 105, 110]⟩, .slice none 0 0, .slice (some ⟨w.heap.size + 1, 0, none⟩) 1 1] 39)).alloc (.cells #[.slice (some ⟨w.heap.size + 1 + 1, 0, none⟩) 1 1] 26)).heap[w.heap.size + 1 + 1]? = some (.cells #[.string ⟨#[109, 97, 105, 110]⟩, .slice none 0 0, .slice (some ⟨w.heap.size + 1, 0, none⟩) 1 1] 39 (0, 0)) := at_oldN (at_newN (by simp))
  generalize ((((w.alloc (.cells #[.int .u8 3, .string ⟨#[97]⟩, .string ⟨#[]⟩, .string ⟨#[]⟩, .int .i64 0, .string ⟨#[]⟩, .slice none 0 0, .slice none 0 0, .int .u8 5, .string ⟨#[98]⟩, .string ⟨#[99]⟩, .string ⟨#[]⟩, .int .i64 0, .string ⟨#[]⟩, .slice none 0 0, .slice none 0 0, .int .u8 14, .string ⟨#[]⟩, .string ⟨#[]⟩, .string ⟨#[]⟩, .int .i64 0, .string ⟨#[]⟩, .slice none 0 0, .slice none 0 0] 47)).alloc (.cells #[.string ⟨#[108]⟩, .slice (some ⟨w.heap.size, 0, none⟩) 3 3] 43)).alloc (.cells #[.string ⟨#[109, 97, 105, 110]⟩, .slice none 0 0, .slice (some ⟨w.heap.size + 1, 0, none⟩) 1 1] 39)).alloc (.cells #[.slice (some ⟨w.heap.size + 1 + 1, 0, none⟩) 1 1] 26)) = W at h0 h1 h2 ⊢
  refine rde_block h2 rfl (fun i d hi => ?_)
  obtain ⟨rfl, rfl⟩ := one_at hi
  refine ⟨_, ⟨.slice none 0 0, .slice (some ⟨w.heap.size + 1, 0, none⟩) 1 1, rfl, .inl ⟨rfl, .inl rfl⟩, ?_⟩, rfl, fun j u hj => ?_⟩
  · refine rde_block h1 rfl (fun i d hi => ?_)
    obtain ⟨rfl, rfl⟩ := one_at hi
    refine ⟨_, ⟨.slice (some ⟨w.heap.size, 0, none⟩) 3 3, rfl, ?_⟩, rfl, fun j u hj => ?_⟩
    · refine rde_block h0 rfl (fun i d hi => ?_)
      match i, hi with
      | 0, hi => cases hi; exact ⟨_, ⟨.slice none 0 0, .slice none 0 0, rfl, .inl ⟨rfl, .inl rfl⟩, .inl ⟨rfl, .inl rfl⟩⟩, rfl, fun j u hj => at_row (n := 8) rfl hj⟩
      | 1, hi => cases hi; exact ⟨_, ⟨.slice none 0 0, .slice none 0 0, rfl, .inl ⟨rfl, .inl rfl⟩, .inl ⟨rfl, .inl rfl⟩⟩, rfl, fun j u hj => at_row (n := 8) rfl hj⟩
      | 2, hi => cases hi; exact ⟨_, ⟨.slice none 0 0, .slice none 0 0, rfl, .inl ⟨rfl, .inl rfl⟩, .inl ⟨rfl, .inl rfl⟩⟩, rfl, fun j u hj => at_row (n := 8) rfl hj⟩
    · exact at_row (n := 2) rfl hj
  · exact at_row (n := 3) rfl hj
set_option maxRecDepth 20000 in
set_option maxHeartbeats 4000000 in
theorem checks_any (w : World) : Calls Try.prog 9 #[] w fun e w' => e = .returned (.bool true) ∧ Below w.heap.size w w' := by
  have hR := Lib.hid (kP_read w)
  have hB : Below w.heap.size w ((((w.alloc (.cells #[.int .u8 3, .string ⟨#[97]⟩, .string ⟨#[]⟩, .string ⟨#[]⟩, .int .i64 0, .string ⟨#[]⟩, .slice none 0 0, .slice none 0 0, .int .u8 5, .string ⟨#[98]⟩, .string ⟨#[99]⟩, .string ⟨#[]⟩, .int .i64 0, .string ⟨#[]⟩, .slice none 0 0, .slice none 0 0, .int .u8 14, .string ⟨#[]⟩, .string ⟨#[]⟩, .string ⟨#[]⟩, .int .i64 0, .string ⟨#[]⟩, .slice none 0 0, .slice none 0 0] 47)).alloc (.cells #[.string ⟨#[108]⟩, .slice (some ⟨w.heap.size, 0, none⟩) 3 3] 43)).alloc (.cells #[.string ⟨#[109, 97, 105, 110]⟩, .slice none 0 0, .slice (some ⟨w.heap.size + 1, 0, none⟩) 1 1] 39)).alloc (.cells #[.slice (some ⟨w.heap.size + 1 + 1, 0, none⟩) 1 1] 26)) := ((((Below.refl _ _).alloc (Nat.le_refl _) _).alloc (by simp) _).alloc (by simp; omega) _).alloc (by simp; omega) _
  have hc : ((((w.alloc (.cells #[.int .u8 3, .string ⟨#[97]⟩, .string ⟨#[]⟩, .string ⟨#[]⟩, .int .i64 0, .string ⟨#[]⟩, .slice none 0 0, .slice none 0 0, .int .u8 5, .string ⟨#[98]⟩, .string ⟨#[99]⟩, .string ⟨#[]⟩, .int .i64 0, .string ⟨#[]⟩, .slice none 0 0, .slice none 0 0, .int .u8 14, .string ⟨#[]⟩, .string ⟨#[]⟩, .string ⟨#[]⟩, .int .i64 0, .string ⟨#[]⟩, .slice none 0 0, .slice none 0 0] 47)).alloc (.cells #[.string ⟨#[108]⟩, .slice (some ⟨w.heap.size, 0, none⟩) 3 3] 43)).alloc (.cells #[.string ⟨#[109, 97, 105, 110]⟩, .slice none 0 0, .slice (some ⟨w.heap.size + 1, 0, none⟩) 1 1] 39)).alloc (.cells #[.slice (some ⟨w.heap.size + 1 + 1, 0, none⟩) 1 1] 26)).cell? ⟨w.heap.size + 1 + 1 + 1, 0, none⟩ = some (.slice (some ⟨w.heap.size + 1 + 1, 0, none⟩) 1 1) := by rw [blk_cell (at_newN (by simp))]; rfl
  replace hB := Lib.hid hB
  go_enter Try.func9, Try.ntmps9
  go_upto_region 2 with fail
  generalize ((((w.alloc (.cells #[.int .u8 3, .string ⟨#[97]⟩, .string ⟨#[]⟩, .string ⟨#[]⟩, .int .i64 0, .string ⟨#[]⟩, .slice none 0 0, .slice none 0 0, .int .u8 5, .string ⟨#[98]⟩, .string ⟨#[99]⟩, .string ⟨#[]⟩, .int .i64 0, .string ⟨#[]⟩, .slice none 0 0, .slice none 0 0, .int .u8 14, .string ⟨#[]⟩, .string ⟨#[]⟩, .string ⟨#[]⟩, .int .i64 0, .string ⟨#[]⟩, .slice none 0 0, .slice none 0 0] 47)).alloc (.cells #[.string ⟨#[108]⟩, .slice (some ⟨w.heap.size, 0, none⟩) 3 3] 43)).alloc (.cells #[.string ⟨#[109, 97, 105, 110]⟩, .slice none 0 0, .slice (some ⟨w.heap.size + 1, 0, none⟩) 1 1] 39)).alloc (.cells #[.slice (some ⟨w.heap.size + 1 + 1, 0, none⟩) 1 1] 26)) = W at hR hB hc ⊢
  go_wp2_with (first
    | (go_at_call 11; refine Calls.mono (check_any kP_ok hR.out) ?_; rintro e w2 ⟨rfl, hb2⟩; rw [kP_wrong]; unfold wrongA)
    | (go_at_call 7; refine Calls.mono (nm_is_any _ _ (by decide)) ?_; rintro e w3 ⟨rfl, rfl⟩; first | rw [isK1] | rw [isK2]))
  go_ret
  exact ⟨rfl, hB.out.trans (hb2.mono hB.out.size)⟩
end Go.Proofs.YtjblhiekccjdcaaR
