/- What an act does to the four sets and the four lists. -/
import Derived.Test.YtdpbbgfceagofaaDoorPlayA
namespace Go.Proofs.YtdpbbgfceagofaaDoor
open Go.RowKit Go.Maps

section
variable {w0 w : World} {ps ws : Nat} {L : List (Nat × List Nat)} {vs : List Value} {rss : List (List Nat)} {X : List (Nat × Obj)} {V V' : List Nat} {a b sa sb : Nat} {la lb ra rb : List Nat} {va vb : Value} {n : Int}

theorem play_w {f : Nat} {args : Array Value} (P : Play w0 w ps ws L vs rss X V) (ha : a < 4) {xs : List Int} (h0 : ∀ x ∈ xs, 0 ≤ x) (hr : xs.Pairwise (· < ·)) (hV : ∀ n ∈ V, n ∈ V') (hxs : ∀ n : Nat, (n : Int) ∈ xs → n ∈ V')
    (h : Calls Tryd.prog f args w fun e w1 => ∃ v', e = .returned v' ∧ Strip w1 v' xs ∧ ((∃ i : Nat, vs[i]? = some v') ∨ ∀ b, v'.ownBlock = some b → w.heap.size ≤ b) ∧ Below w.heap.size w w1) :
    Calls Tryd.prog f args w fun e w1 => ∃ av cv rs', e = .returned (.slice av rs'.length cv) ∧ xs = ints rs' ∧ (∀ n, n ∈ rs' ↔ (n : Int) ∈ xs) ∧ rs'.Pairwise (· < ·) ∧ Play w0 w1 ps ws L vs rss X V ∧
      Play w0 (w1.setCell ⟨ws, a, none⟩ (.slice av rs'.length cv)) ps ws L (vs.set a (.slice av rs'.length cv)) (rss.set a rs') X V' := by
  refine h.mono ?_
  rintro e w1 ⟨v', rfl, hs, hn, hb⟩
  obtain ⟨rs', rfl, hr', hm⟩ := nat_row h0 hr
  obtain ⟨av, cv, rfl⟩ := own_form hs
  rw [ints_len] at hs hn ⊢
  refine ⟨av, cv, rs', rfl, rfl, hm, hr', P.below hb, P.setW ha hV (fun n h => hxs n ((hm n).1 h)) hs hr' hn hb⟩

theorem ints_nonneg (rs : List Nat) : ∀ x ∈ ints rs, 0 ≤ x := fun x hx => (mem_ints.1 hx).1
theorem mem_ints_nat {rs : List Nat} {n : Nat} : (n : Int) ∈ ints rs ↔ n ∈ rs := by rw [mem_ints]; simp

theorem play_radd (P : Play w0 w ps ws L vs rss X V) (ha : a < 4) (hva : vs[a]? = some va) (hra : rss[a]? = some ra) (hlen : V.length ≤ 1000) :
    Calls Tryd.prog 13 #[va, .int .i64 n] w fun e w1 => ∃ av cv rs', e = .returned (.slice av rs'.length cv) ∧ addL (ints ra) n = ints rs' ∧ (∀ m, m ∈ rs' ↔ (m : Int) ∈ addL (ints ra) n) ∧ rs'.Pairwise (· < ·) ∧ Play w0 w1 ps ws L vs rss X V ∧
      Play w0 (w1.setCell ⟨ws, a, none⟩ (.slice av rs'.length cv)) ps ws L (vs.set a (.slice av rs'.length cv)) (rss.set a rs') X (V ++ [n.toNat]) := by
  obtain ⟨h1, h2, h3, h4⟩ := P.rows a va ra hva hra
  have hl := P.lenW hva hra
  refine play_w P ha (fun x hx => ?_) (rise_addL (rise_ints h2)) (fun m h => List.mem_append_left _ h) (fun m hm => ?_) ((radd_any h1 (by rw [ints_len]; omega)).mono ?_)
  · rcases mem_addL.1 hx with h | ⟨rfl, h⟩
    · exact ints_nonneg _ _ h
    · exact h
  · rcases mem_addL.1 hm with h | ⟨h, _⟩
    · exact List.mem_append_left _ (h4 m (mem_ints_nat.1 h))
    · exact List.mem_append_right _ (by simp; omega)
  · rintro e w1 ⟨v', rfl, hs, hn, hb⟩
    refine ⟨v', rfl, hs, ?_, hb⟩
    rcases hn with rfl | hn
    · exact Or.inl ⟨a, hva⟩
    · exact Or.inr hn

theorem play_runion (P : Play w0 w ps ws L vs rss X V) (ha : a < 4) (hva : vs[a]? = some va) (hra : rss[a]? = some ra) (hvb : vs[b]? = some vb) (hrb : rss[b]? = some rb) (hlen : V.length ≤ 1000) :
    Calls Tryd.prog 17 #[va, vb] w fun e w1 => ∃ av cv rs', e = .returned (.slice av rs'.length cv) ∧ uniL (ints ra) (ints rb) = ints rs' ∧ (∀ m, m ∈ rs' ↔ (m : Int) ∈ uniL (ints ra) (ints rb)) ∧ rs'.Pairwise (· < ·) ∧ Play w0 w1 ps ws L vs rss X V ∧
      Play w0 (w1.setCell ⟨ws, a, none⟩ (.slice av rs'.length cv)) ps ws L (vs.set a (.slice av rs'.length cv)) (rss.set a rs') X V := by
  obtain ⟨h1, h2, h3, h4⟩ := P.rows a va ra hva hra
  obtain ⟨k1, k2, k3, k4⟩ := P.rows b vb rb hvb hrb
  have hl := P.lenW hva hra
  have hl2 := P.lenW hvb hrb
  refine play_w P ha (fun x hx => ?_) (rise_uniL (rise_ints h2) _) (fun m h => h) (fun m hm => ?_) ((runion_any h1 (strip_rd k1) (by rw [ints_len]; omega) (by rw [ints_len]; omega)).mono ?_)
  · rcases mem_uniL.1 hx with h | ⟨_, h⟩
    · exact ints_nonneg _ _ h
    · exact h
  · rcases mem_uniL.1 hm with h | ⟨h, _⟩
    · exact h4 m (mem_ints_nat.1 h)
    · exact k4 m (mem_ints_nat.1 h)
  · rintro e w1 ⟨v', rfl, hs, hn, hb⟩
    refine ⟨v', rfl, hs, ?_, hb⟩
    rcases hn with rfl | hn
    · exact Or.inl ⟨a, hva⟩
    · exact Or.inr hn

theorem play_rpick (P : Play w0 w ps ws L vs rss X V) (ha : a < 4) (hva : vs[a]? = some va) (hra : rss[a]? = some ra) {u : Value} {ys : List Int} (hu : RdI w u ys) (hy : ys.length ≤ 10000) (inn : Bool) (hlen : V.length ≤ 1000) :
    Calls Tryd.prog 15 #[va, u, .bool inn] w fun e w1 => ∃ av cv rs', e = .returned (.slice av rs'.length cv) ∧ pickL (ints ra) ys inn = ints rs' ∧ (∀ m, m ∈ rs' ↔ (m : Int) ∈ pickL (ints ra) ys inn) ∧ rs'.Pairwise (· < ·) ∧ Play w0 w1 ps ws L vs rss X V ∧
      Play w0 (w1.setCell ⟨ws, a, none⟩ (.slice av rs'.length cv)) ps ws L (vs.set a (.slice av rs'.length cv)) (rss.set a rs') X V := by
  obtain ⟨h1, h2, h3, h4⟩ := P.rows a va ra hva hra
  have hl := P.lenW hva hra
  refine play_w P ha (fun x hx => ?_) (rise_pickL (rise_ints h2) _ _) (fun m h => h) (fun m hm => ?_) ((rpick_any (inn := inn) (strip_rd h1) hu (by rw [ints_len]; omega) hy).mono ?_)
  · exact ints_nonneg _ _ (mem_pickL.1 hx).1
  · exact h4 m (mem_ints_nat.1 (mem_pickL.1 hm).1)
  · rintro e w1 ⟨v', rfl, hs, hn, hb⟩
    exact ⟨v', rfl, hs, Or.inr hn, hb⟩

theorem play_rof (P : Play w0 w ps ws L vs rss X V) (ha : a < 4) {u : Value} {ys : List Int} (hu : RdI w u ys) (hy : ys.length ≤ 10000) :
    Calls Tryd.prog 22 #[u] w fun e w1 => ∃ av cv rs', e = .returned (.slice av rs'.length cv) ∧ ofL ys = ints rs' ∧ (∀ m, m ∈ rs' ↔ (m : Int) ∈ ofL ys) ∧ rs'.Pairwise (· < ·) ∧ Play w0 w1 ps ws L vs rss X V ∧
      Play w0 (w1.setCell ⟨ws, a, none⟩ (.slice av rs'.length cv)) ps ws L (vs.set a (.slice av rs'.length cv)) (rss.set a rs') X (V ++ ys.map Int.toNat) := by
  refine play_w P ha (fun x hx => ?_) (by rw [ofL_uniL]; exact rise_uniL List.Pairwise.nil _) (fun m h => List.mem_append_left _ h) (fun m hm => ?_) ((rof_any hu hy).mono ?_)
  · rw [ofL_uniL] at hx
    rcases mem_uniL.1 hx with h | ⟨_, h⟩
    · cases h
    · exact h
  · rw [ofL_uniL] at hm
    rcases mem_uniL.1 hm with h | ⟨h, _⟩
    · cases h
    · exact List.mem_append_right _ (List.mem_map.2 ⟨_, h, by simp⟩)
  · rintro e w1 ⟨v', rfl, hs, hn, hb⟩
    exact ⟨v', rfl, hs, Or.inr hn, hb⟩

/-- A list that is another one's. -/
theorem play_wcopy (P : Play w0 w ps ws L vs rss X V) (ha : a < 4) (hvb : vs[b]? = some vb) (hrb : rss[b]? = some rb) : Play w0 (w.setCell ⟨ws, a, none⟩ vb) ps ws L (vs.set a vb) (rss.set a rb) X V := by
  obtain ⟨h1, h2, h3, h4⟩ := P.rows b vb rb hvb hrb
  exact P.setW ha (fun n h => h) h4 h1 h2 (Or.inl ⟨b, hvb⟩) (Below.refl _ _)

theorem play_add (P : Play w0 w ps ws L vs rss X (V ++ [n.toNat])) (hLa : L[a]? = some (sa, la)) (hn : n < 9223372036854775808) (hlen : V.length ≤ 1000) :
    Calls Tryd.prog 14 #[ptr sa, .int .i64 n] w fun e w1 => e = .returned (.bool (decide (0 ≤ n ∧ n.toNat ∉ la))) ∧ Play w0 w1 ps ws (L.set a (sa, plusN la n)) vs rss X (V ++ [n.toNat]) := by
  have hl := P.lenS hLa
  rw [List.length_append, List.length_singleton] at hl
  refine (hall_add P.hall hLa hn (by omega)).mono ?_
  rintro e w1 ⟨he, B, hk⟩
  refine ⟨he, P.turn hLa (fun _ h => h) (fun m hm => ?_) B hk⟩
  rcases (mem_plusN la n m).1 hm with h | h
  · exact P.sets a sa la hLa m h
  · exact List.mem_append_right _ (by simp; omega)

theorem play_drop (P : Play w0 w ps ws L vs rss X V) (hLa : L[a]? = some (sa, la)) (hn : n < 9223372036854775808) (hlen : V.length ≤ 1000) :
    Calls Tryd.prog 16 #[ptr sa, .int .i64 n] w fun e w1 => e = .returned (.bool (decide (0 ≤ n ∧ n.toNat ∈ la))) ∧ Play w0 w1 ps ws (L.set a (sa, lessN la n)) vs rss X V := by
  have hl := P.lenS hLa
  have hnd := P.hall.nodup hLa
  refine (hall_drop P.hall hLa hn (by omega)).mono ?_
  rintro e w1 ⟨he, B, hk⟩
  exact ⟨he, P.turn hLa (fun _ h => h) (fun m hm => P.sets a sa la hLa m ((mem_lessN hnd).1 hm).1) B hk⟩

theorem uni_same {l : List Nat} : uni l l = l := by
  unfold uni
  have : l.filter (fun n => !decide (n ∈ l)) = [] := by
    rw [List.filter_eq_nil_iff]
    intro n hn
    simp [hn]
  rw [this, List.append_nil]

theorem play_union (P : Play w0 w ps ws L vs rss X V) (hLa : L[a]? = some (sa, la)) (hLb : L[b]? = some (sb, lb)) (hlen : V.length ≤ 1000) :
    Calls Tryd.prog 18 #[ptr sa, ptr sb] w fun e w1 => e = .returned (.bool (decide (la.length < (uni la lb).length))) ∧ Play w0 w1 ps ws (L.set a (sa, uni la lb)) vs rss X V := by
  have hl := P.lenS hLa
  have hl2 := P.lenS hLb
  by_cases hab : b = a
  · subst hab
    rw [hLa] at hLb
    simp only [Option.some.injEq, Prod.mk.injEq] at hLb
    obtain ⟨rfl, rfl⟩ := hLb
    refine (union_self _ w).mono ?_
    rintro e w1 ⟨he, rfl⟩
    rw [uni_same]
    have e2 : L.set b (sa, la) = L := by
      refine List.ext_getElem? (fun i => ?_)
      by_cases hi : i = b
      · subst hi
        rw [List.getElem?_set_self (List.getElem?_eq_some_iff.1 hLa).1, hLa]
      · rw [List.getElem?_set_ne (Ne.symm hi)]
    rw [e2]
    exact ⟨by rw [he]; simp, P⟩
  · refine (hall_union P.hall hLa hLb hab (by omega)).mono ?_
    rintro e w1 ⟨he, B, hk⟩
    refine ⟨he, P.turn hLa (fun _ h => h) (fun m hm => ?_) B hk⟩
    rcases mem_uni.1 hm with h | h
    · exact P.sets a sa la hLa m h
    · exact P.sets b sb lb hLb m h

theorem play_s {f : Nat} {args : Array Value} {l' : List Nat} (P : Play w0 w ps ws L vs rss X V) (ha : a < 4) (hl : ∀ n ∈ l', n ∈ V)
    (h : Calls Tryd.prog f args w fun e w1 => ∃ s', e = .returned (ptr s') ∧ Hall w0 w1 (L ++ [(s', l')]) (Kept ps ws vs X) ∧ Below w.heap.size w w1 ∧ w.heap.size ≤ s') :
    Calls Tryd.prog f args w fun e w1 => ∃ s', e = .returned (ptr s') ∧ Play w0 w1 ps ws L vs rss X V ∧ Play w0 (w1.setCell ⟨ps, a, none⟩ (ptr s')) ps ws (L.set a (s', l')) vs rss X V := by
  refine h.mono ?_
  rintro e w1 ⟨s', rfl, B, hb, -⟩
  exact ⟨s', rfl, P.below hb, P.setS ha (fun _ h => h) hl B hb⟩

theorem play_minus (P : Play w0 w ps ws L vs rss X V) (ha : a < 4) (hLa : L[a]? = some (sa, la)) (hLb : L[b]? = some (sb, lb)) (hlen : V.length ≤ 1000) :
    Calls Tryd.prog 19 #[ptr sa, ptr sb] w fun e w1 => ∃ s', e = .returned (ptr s') ∧ Play w0 w1 ps ws L vs rss X V ∧ Play w0 (w1.setCell ⟨ps, a, none⟩ (ptr s')) ps ws (L.set a (s', less la lb)) vs rss X V :=
  play_s P ha (fun n hn => P.sets a sa la hLa n (mem_less.1 hn).1) (hall_minus P.hall hLa hLb (by have := P.lenS hLa; omega))

theorem play_both (P : Play w0 w ps ws L vs rss X V) (ha : a < 4) (hLa : L[a]? = some (sa, la)) (hLb : L[b]? = some (sb, lb)) (hlen : V.length ≤ 1000) :
    Calls Tryd.prog 20 #[ptr sa, ptr sb] w fun e w1 => ∃ s', e = .returned (ptr s') ∧ Play w0 w1 ps ws L vs rss X V ∧ Play w0 (w1.setCell ⟨ps, a, none⟩ (ptr s')) ps ws (L.set a (s', both la lb)) vs rss X V :=
  play_s P ha (fun n hn => P.sets a sa la hLa n (mem_both.1 hn).1) (hall_both P.hall hLa hLb (by have := P.lenS hLa; omega))

theorem play_copy (P : Play w0 w ps ws L vs rss X V) (ha : a < 4) (hLb : L[b]? = some (sb, lb)) (hlen : V.length ≤ 1000) :
    Calls Tryd.prog 21 #[ptr sb] w fun e w1 => ∃ s', e = .returned (ptr s') ∧ Play w0 w1 ps ws L vs rss X V ∧ Play w0 (w1.setCell ⟨ps, a, none⟩ (ptr s')) ps ws (L.set a (s', lb)) vs rss X V :=
  play_s P ha (fun n hn => P.sets b sb lb hLb n hn) (hall_copy P.hall hLb (by have := P.lenS hLb; omega))

theorem play_of (P : Play w0 w ps ws L vs rss X V) (ha : a < 4) {u : Value} {ys : List Int} (hu : RdI w u ys) (hy : ys.length ≤ 10000) (h63 : ∀ x ∈ ys, x < 9223372036854775808) (hV : ∀ x ∈ ys, x.toNat ∈ V) :
    Calls Tryd.prog 11 #[u] w fun e w1 => ∃ s', e = .returned (ptr s') ∧ Play w0 w1 ps ws L vs rss X V ∧ Play w0 (w1.setCell ⟨ps, a, none⟩ (ptr s')) ps ws (L.set a (s', numsOf ys)) vs rss X V :=
  play_s P ha (fun n hn => by have := hV _ ((mem_numsOf ys n).1 hn); simpa using this) (hall_of P.hall hu h63 (by omega))

theorem play_tells (P : Play w0 w ps ws L vs rss X V) (G : Gl w0) (M : Match L rss) (hLa : L[a]? = some (sa, la)) (hva : vs[a]? = some va) (hra : rss[a]? = some ra) (hn : n < 9223372036854775808) (hlen : V.length ≤ 1000) :
    Calls Tryd.prog 23 #[ptr sa, va, .int .i64 n] w fun e w1 => e = .returned (.bool true) ∧ Play w0 w1 ps ws L vs rss X V := by
  obtain ⟨bm, D, S⟩ := P.hall.at hLa
  obtain ⟨h1, h2, h3, h4⟩ := P.rows a va ra hva hra
  have hl := P.lenS hLa
  exact (tells_any S (P.hall.gl G) (strip_rd h1) h2 (M a sa la ra hLa hra) (by omega) hn).mono fun _ _ ⟨he, hb⟩ => ⟨he, P.below hb⟩

theorem play_same (P : Play w0 w ps ws L vs rss X V) (hLa : L[a]? = some (sa, la)) (hLb : L[b]? = some (sb, lb)) :
    Calls Tryd.prog 24 #[ptr sa, ptr sb] w fun e w1 => e = .returned (.bool (alike la lb)) ∧ Play w0 w1 ps ws L vs rss X V :=
  (hall_same P.hall hLa hLb).mono fun _ _ ⟨he, hb⟩ => ⟨he, P.below hb⟩

theorem play_in (P : Play w0 w ps ws L vs rss X V) (hLa : L[a]? = some (sa, la)) (hLb : L[b]? = some (sb, lb)) :
    Calls Tryd.prog 26 #[ptr sa, ptr sb] w fun e w1 => e = .returned (.bool (decide (∀ n ∈ la, n ∈ lb))) ∧ Play w0 w1 ps ws L vs rss X V :=
  (hall_in P.hall hLa hLb).mono fun _ _ ⟨he, hb⟩ => ⟨he, P.below hb⟩

theorem play_rsame (P : Play w0 w ps ws L vs rss X V) (hva : vs[a]? = some va) (hra : rss[a]? = some ra) (hvb : vs[b]? = some vb) (hrb : rss[b]? = some rb) (hlen : V.length ≤ 1000) :
    Calls Tryd.prog 25 #[va, vb] w fun e w1 => e = .returned (.bool (decide (ra = rb))) ∧ Play w0 w1 ps ws L vs rss X V := by
  obtain ⟨h1, h2, h3, h4⟩ := P.rows a va ra hva hra
  obtain ⟨k1, k2, k3, k4⟩ := P.rows b vb rb hvb hrb
  have hl := P.lenW hva hra
  refine (same_any (strip_rd h1) (strip_rd k1) (by rw [ints_len]; omega)).mono ?_
  rintro e w1 ⟨he, m, rfl⟩
  refine ⟨?_, P.drawn m⟩
  rw [he]
  congr 2
  rw [decide_eq_decide]
  exact ⟨ints_inj, fun h => by rw [h]⟩

theorem play_rpick0 (P : Play w0 w ps ws L vs rss X V) (hva : vs[a]? = some va) (hra : rss[a]? = some ra) (hvb : vs[b]? = some vb) (hrb : rss[b]? = some rb) (hlen : V.length ≤ 1000) :
    Calls Tryd.prog 15 #[va, vb, .bool false] w fun e w1 => ∃ av cv k, e = .returned (.slice av k cv) ∧ k = (pickL (ints ra) (ints rb) false).length ∧ Play w0 w1 ps ws L vs rss X V := by
  obtain ⟨h1, h2, h3, h4⟩ := P.rows a va ra hva hra
  obtain ⟨k1, k2, k3, k4⟩ := P.rows b vb rb hvb hrb
  have hl := P.lenW hva hra
  have hl2 := P.lenW hvb hrb
  refine (rpick_any (strip_rd h1) (strip_rd k1) (by rw [ints_len]; omega) (by rw [ints_len]; omega)).mono ?_
  rintro e w1 ⟨v', rfl, hs, _, hb⟩
  obtain ⟨av, cv, rfl⟩ := own_form hs
  exact ⟨av, cv, _, rfl, rfl, P.below hb⟩
end
end Go.Proofs.YtdpbbgfceagofaaDoor
