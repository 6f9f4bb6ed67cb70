/- The table of package vers: one history is put in its place, or taken out. -/
import Derived.Test.YtickoadcficdeaaGreatDoorVsTab
namespace Go.Proofs.YtickoadcficdeaaGreatDoor
open Go.RowKit Go.Maps Vs

/-- The block that a slice lies in is as it was, or new. -/
theorem own_block {w : World} {B e size m : Nat} {v : Value} {xs : List Value} (h : w.ownsRow B e size v m xs) (hm : 0 < m) : ∃ g c, v = sl g m c := by
  rcases h.2 with ⟨_, h0⟩ | ⟨g, cap, cur, h0, _⟩
  · omega
  · exact ⟨g, cap, h0⟩
/-- A history is put in its place: its row lies where it lay, or is new. -/
theorem Mp.set {w w2 : World} {F E : Nat → Prop} {B M : Nat} {D : DataW Value} {l l' : List Ver} {s : ByteArray} {h' : List Ver} {g c n : Nat} (h : Mp w F B M D l) (hB : B < w.heap.size)
    (hs' : hs l' s = h') (hne : h' ≠ []) (ho : ∀ t, t ≠ s → hs l' t = hs l t)
    (hg : (∃ n c, look D (kS s) = some (sl g n c)) ∨ w.heap.size ≤ g) (hrow : w2.ownsRow 0 64 3 (sl g h'.length c) h'.length (hiV h'))
    (hown : w2.ownsMap Tryz.prog 9 anyE M n (D.put (kS s) (.held (sl g h'.length c)))) (hb : But E w w2) (hE : ∀ j, j < w.heap.size → E j → j = M ∨ ∃ n c, look D (kS s) = some (sl j n c)) : Mp w2 (Nw F w w2) B M (D.put (kS s) (.held (sl g h'.length c))) l' := by
  obtain ⟨n0, ho0⟩ := h.own
  have hM := h.lt
  have hput : look (D.put (kS s) (.held (sl g h'.length c))) (kS s) = some (sl g h'.length c) := look_put ho0.isMap (kS_key s) _
  have hoth : ∀ t, t ≠ s → look (D.put (kS s) (.held (sl g h'.length c))) (kS t) = look D (kS t) := fun t ht => look_put_other (kS_ne ht) _
  have hfind : ∀ t g n c, look D (kS t) = some (sl g n c) → F g ∧ g ≠ B ∧ g ≠ M ∧ g < w.heap.size := fun t g n c hl => by
    rcases h.rows t with ⟨_, h2⟩ | ⟨_, g', c', h2, h3, h4, h5, h6⟩
    · rw [h2] at hl; cases hl
    · rw [h2] at hl; cases (Option.some.inj hl); exact ⟨h3, h4, h5, own_lt h6⟩
  refine ⟨.inl h.gM, h.ne, ⟨n, hown⟩, fun t => ?_, fun t u g1 n1 c1 n2 c2 e1 e2 => ?_⟩
  · by_cases e : t = s
    · subst e
      rw [hs']
      refine .inr ⟨hne, g, c, hput, ?_⟩
      rcases hg with ⟨n1, c1, e1⟩ | hg
      · obtain ⟨f1, f2, f3, f4⟩ := hfind _ _ _ _ e1
        exact ⟨.inl f1, f2, f3, hrow⟩
      · exact ⟨.inr ⟨hg, own_lt hrow⟩, by omega, by omega, hrow⟩
    · rw [ho t e]
      rcases h.rows t with ⟨h1, h2⟩ | ⟨h1, g', c', h2, h3, h4, h5, h6⟩
      · exact .inl ⟨h1, by rw [hoth t e]; exact h2⟩
      · refine .inr ⟨h1, g', c', by rw [hoth t e]; exact h2, .inl h3, h4, h5, own_but h6 hb (fun k => ?_)⟩
        rcases hE g' (own_lt h6) k with k | ⟨n1, c1, k⟩
        · exact h5 k
        · exact e (h.apart _ _ _ _ _ _ _ h2 k)
  · have key : ∀ t g1 n1 c1, t ≠ s → look D (kS t) = some (sl g1 n1 c1) → g1 ≠ g := fun t' g' n' c' ee ee1 k => by
      rw [k] at ee1
      rcases hg with ⟨n3, c3, ee2⟩ | hg
      · exact ee (h.apart _ _ _ _ _ _ _ ee1 ee2)
      · have := (hfind _ _ _ _ ee1).2.2.2; omega
    by_cases a1 : t = s
    · by_cases a2 : u = s
      · rw [a1, a2]
      · rw [a1, hput] at e1
        rw [hoth u a2] at e2
        cases (Option.some.inj e1)
        exact absurd rfl (key u _ _ _ a2 e2)
    · rw [hoth t a1] at e1
      by_cases a2 : u = s
      · rw [a2, hput] at e2
        cases (Option.some.inj e2)
        exact absurd rfl (key t _ _ _ a1 e1)
      · rw [hoth u a2] at e2
        exact h.apart _ _ _ _ _ _ _ e1 e2
/-- A history is taken out. -/
theorem Mp.del {w w2 : World} {F : Nat → Prop} {B M : Nat} {D : DataW Value} {l l' : List Ver} {s : ByteArray} {n : Nat} (h : Mp w F B M D l) (hs' : hs l' s = []) (ho : ∀ t, t ≠ s → hs l' t = hs l t)
    (hown : w2.ownsMap Tryz.prog 9 anyE M n (D.del (kS s))) (hb : But (fun j => j = M) w w2) : Mp w2 F B M (D.del (kS s)) l' := by
  have hoth : ∀ t, t ≠ s → look (D.del (kS s)) (kS t) = look D (kS t) := fun t ht => look_del_other (kS_ne ht)
  have hne : ∀ {t g n c}, look (D.del (kS s)) (kS t) = some (sl g n c) → t ≠ s := fun {t g n c} e k => by rw [k, look_del] at e; cases e
  refine ⟨h.gM, h.ne, ⟨n, hown⟩, fun t => ?_, fun t u g1 n1 c1 n2 c2 e1 e2 => ?_⟩
  · by_cases e : t = s
    · subst e; exact .inl ⟨hs', look_del⟩
    · rw [ho t e]
      rcases h.rows t with ⟨h1, h2⟩ | ⟨h1, g', c', h2, h3, h4, h5, h6⟩
      · exact .inl ⟨h1, by rw [hoth t e]; exact h2⟩
      · exact .inr ⟨h1, g', c', by rw [hoth t e]; exact h2, h3, h4, h5, own_but h6 hb h5⟩
  · have a1 := hne e1
    have a2 := hne e2
    rw [hoth t a1] at e1
    rw [hoth u a2] at e2
    exact h.apart _ _ _ _ _ _ _ e1 e2
/-- The table's own cells may change. -/
theorem Mp.notB {w w' : World} {F : Nat → Prop} {B M : Nat} {D : DataW Value} {l : List Ver} (h : Mp w F B M D l) (hb : But (fun j => j = B) w w') : Mp w' F B M D l := by
  obtain ⟨n, ho⟩ := h.own
  refine ⟨h.gM, h.ne, ⟨n, map_but ho hb h.ne⟩, fun s => ?_, h.apart⟩
  rcases h.rows s with r | ⟨h1, g, c, h2, h3, h4, h5, h6⟩
  · exact .inl r
  · exact .inr ⟨h1, g, c, h2, h3, h4, h5, own_but h6 hb h4⟩
/-- Nothing of a key changes. -/
theorem Mp.same {w : World} {F : Nat → Prop} {B M : Nat} {D : DataW Value} {l l' : List Ver} (h : Mp w F B M D l) (ho : ∀ t, hs l' t = hs l t) : Mp w F B M D l' :=
  ⟨h.gM, h.ne, h.own, fun t => by rw [ho t]; exact h.rows t, h.apart⟩
end Go.Proofs.YtickoadcficdeaaGreatDoor
