/- How the table of package vers lies in memory: a map from keys to histories, each in a row of its own. -/
import Derived.Test.YtickoadcficdeaaGreatDoorVsFace
import Derived.Test.YtickoadcficdeaaGreatDoorVsHist
import Derived.Test.YtickoadcficdeaaGreatDoorMpHeld
import Derived.Sort.KeysCollected
namespace Go.Proofs.YtickoadcficdeaaGreatDoor
open Go.RowKit Go.Maps Vs

/-- Versions of one key as cells, three each. -/
def hiV (l : List Ver) : List Value := l.flatMap fun x => [.int .i64 x.n, .string x.v, .bool x.g]
theorem hiV_len : ∀ l : List Ver, (hiV l).length = l.length * 3
  | [] => rfl
  | s :: r => by show ((hiV r).length + 1 + 1 + 1) = _; rw [hiV_len r, List.length_cons]; omega
theorem hiV_app (l m : List Ver) : hiV (l ++ m) = hiV l ++ hiV m := by simp [hiV]
theorem hiV_at : ∀ (l : List Ver) (i : Nat) (x : Ver), l[i]? = some x → (hiV l)[i * 3]? = some (.int .i64 x.n) ∧ (hiV l)[i * 3 + 1]? = some (.string x.v) ∧ (hiV l)[i * 3 + 2]? = some (.bool x.g)
  | s :: r, 0, x, h => by cases (Option.some.inj h); exact ⟨rfl, rfl, rfl⟩
  | s :: r, i + 1, x, h => by
    have := hiV_at r i x (by simpa using h)
    rw [show (i + 1) * 3 = i * 3 + 3 from by omega, show i * 3 + 3 + 1 = i * 3 + 1 + 3 from by omega, show i * 3 + 3 + 2 = i * 3 + 2 + 3 from by omega]
    exact this
theorem hiV_one (l : List Ver) : ∀ y ∈ hiV l, y.oneCell' = true := by
  intro y hy
  simp only [hiV, List.mem_flatMap] at hy
  obtain ⟨s, _, hs⟩ := hy
  simp at hs
  rcases hs with rfl | rfl | rfl <;> rfl
/-- They lie at the address of a slice, to be read. -/
def HiC (w : World) (b off : Nat) (l : List Ver) : Prop :=
  ∀ i x, l[i]? = some x → w.cell? ⟨b, off + i * 3, none⟩ = some (.int .i64 x.n) ∧ w.cell? ⟨b, off + i * 3 + 1, none⟩ = some (.string x.v) ∧ w.cell? ⟨b, off + i * 3 + 2, none⟩ = some (.bool x.g)
def HiAt (w : World) (p : Option Addr) (l : List Ver) : Prop := 0 < l.length → ∃ b, p = some ⟨b, 0, none⟩ ∧ b < w.heap.size ∧ HiC w b 0 l
theorem HiC.step {w w' : World} {b off : Nat} {l : List Ver} (h : HiC w b off l) (hb : Below w.heap.size w w') (hlt : b < w.heap.size) : HiC w' b off l := fun i x hx => by
  rw [hb.cell (p := ⟨b, off + i * 3, none⟩) hlt, hb.cell (p := ⟨b, off + i * 3 + 1, none⟩) hlt, hb.cell (p := ⟨b, off + i * 3 + 2, none⟩) hlt]
  exact h i x hx
theorem HiAt.nil (w : World) (p : Option Addr) : HiAt w p [] := fun h => by simp at h
theorem HiAt.step {w w' : World} {p : Option Addr} {l : List Ver} (h : HiAt w p l) (hb : Below w.heap.size w w') : HiAt w' p l := by
  intro hl
  obtain ⟨b, rfl, hlt, hc⟩ := h hl
  exact ⟨b, rfl, Nat.lt_of_lt_of_le hlt hb.size, hc.step hb hlt⟩
/-- A slice at the beginning of its block. -/
abbrev sl (g n c : Nat) : Value := .slice (some ⟨g, 0, none⟩) n c
theorem own_lt {w : World} {B e size g n c m : Nat} {xs : List Value} (h : w.ownsRow B e size (sl g n c) m xs) : g < w.heap.size := by
  rcases h.2 with ⟨h0, _⟩ | ⟨g', cap', cur, h0, _, hg, _⟩
  · cases h0
  · cases h0; exact (Array.getElem?_eq_some_iff.1 hg).1
theorem own_cap {w : World} {B e size g n c m : Nat} {xs : List Value} (h : w.ownsRow B e size (sl g n c) m xs) : n = m ∧ m ≤ c ∧ c ≤ maxLen := by
  rcases h.2 with ⟨h0, _⟩ | ⟨g', cap', cur, h0, _, hg, h1, h2, _⟩
  · cases h0
  · cases h0; exact ⟨rfl, h1, h2⟩
theorem hiC_own {w : World} {B e g c : Nat} {l : List Ver} (h : w.ownsRow B e 3 (sl g l.length c) l.length (hiV l)) : HiC w g 0 l := fun i x hx => by
  have hi := (List.getElem?_eq_some_iff.1 hx).1
  have := hiV_at l i x hx
  rw [Nat.zero_add, h.cellAt (i * 3) (by omega), h.cellAt (i * 3 + 1) (by omega), h.cellAt (i * 3 + 2) (by omega)]
  exact this
theorem own_but {E : Nat → Prop} {w w' : World} {B e size g n c m : Nat} {xs : List Value} (h : w.ownsRow B e size (sl g n c) m xs) (hb : But E w w') (hg : ¬ E g) : w'.ownsRow B e size (sl g n c) m xs := by
  refine ⟨h.1, ?_⟩
  rcases h.2 with hn | ⟨g', cap, cur, h0, h1, hh, rest⟩
  · exact .inl hn
  · cases h0
    exact .inr ⟨g, c, cur, rfl, h1, (hb.block g (Array.getElem?_eq_some_iff.1 hh).1 hg).trans hh, rest⟩

/-- What the map has of a key: a row of its own, in a block of F; none if there is no version. -/
def Rw (w : World) (F : Nat → Prop) (B M : Nat) (D : DataW Value) (h : List Ver) (s : ByteArray) : Prop :=
  (h = [] ∧ look D (kS s) = none) ∨ (h ≠ [] ∧ ∃ g c, look D (kS s) = some (sl g h.length c) ∧ F g ∧ g ≠ B ∧ g ≠ M ∧ w.ownsRow 0 64 3 (sl g h.length c) h.length (hiV h))
/-- No two of them are one. -/
def Apart (D : DataW Value) : Prop := ∀ s t g n c n' c', look D (kS s) = some (sl g n c) → look D (kS t) = some (sl g n' c') → s = t
/-- The map. -/
structure Mp (w : World) (F : Nat → Prop) (B M : Nat) (D : DataW Value) (l : List Ver) : Prop where
  gM : F M
  ne : M ≠ B
  own : ∃ n, w.ownsMap Tryz.prog 9 anyE M n D
  rows : ∀ s, Rw w F B M D (hs l s) s
  apart : Apart D
/-- The table. -/
structure Tab (w : World) (F : Nat → Prop) (B : Nat) (l : List Ver) (top : Int) : Prop where
  gB : F B
  c1 : w.cell? ⟨B, 1, none⟩ = some (.int .i64 top)
  f1 : w.frozen? ⟨B, 1, none⟩ = false
  mp : ∃ M D, w.cell? ⟨B, 0, none⟩ = some (.map (some M)) ∧ Mp w F B M D l
theorem Rw.but {E F : Nat → Prop} {w w' : World} {B M : Nat} {D : DataW Value} {h : List Ver} {s : ByteArray} (r : Rw w F B M D h s) (hb : But E w w') (hE : ∀ j, j < w.heap.size → F j → ¬ E j) : Rw w' F B M D h s := by
  rcases r with r | ⟨h1, g, c, h2, h3, h4, h5, h6⟩
  · exact .inl r
  · exact .inr ⟨h1, g, c, h2, h3, h4, h5, own_but h6 hb (hE g (own_lt h6) h3)⟩
theorem Rw.mono {F G : Nat → Prop} {w : World} {B M : Nat} {D : DataW Value} {h : List Ver} {s : ByteArray} (r : Rw w F B M D h s) (hG : ∀ j, j < w.heap.size → F j → G j) : Rw w G B M D h s := by
  rcases r with r | ⟨h1, g, c, h2, h3, h4, h5, h6⟩
  · exact .inl r
  · exact .inr ⟨h1, g, c, h2, hG g (own_lt h6) h3, h4, h5, h6⟩
theorem Mp.lt {w : World} {F : Nat → Prop} {B M : Nat} {D : DataW Value} {l : List Ver} (h : Mp w F B M D l) : M < w.heap.size := by
  obtain ⟨n, ho⟩ := h.own
  exact ho.lt
theorem Mp.but {E F : Nat → Prop} {w w' : World} {B M : Nat} {D : DataW Value} {l : List Ver} (h : Mp w F B M D l) (hb : But E w w') (hE : ∀ j, j < w.heap.size → F j → ¬ E j) : Mp w' F B M D l := by
  obtain ⟨n, ho⟩ := h.own
  exact ⟨h.gM, h.ne, ⟨n, map_but ho hb (hE M h.lt h.gM)⟩, fun s => (h.rows s).but hb hE, h.apart⟩
theorem Mp.step {F : Nat → Prop} {w w' : World} {B M : Nat} {D : DataW Value} {l : List Ver} (h : Mp w F B M D l) (hb : Below w.heap.size w w') : Mp w' F B M D l := h.but (E := fun _ => False) (.below hb) (fun _ _ _ => id)
theorem Mp.mono {F G : Nat → Prop} {w : World} {B M : Nat} {D : DataW Value} {l : List Ver} (h : Mp w F B M D l) (hG : ∀ j, j < w.heap.size → F j → G j) : Mp w G B M D l :=
  ⟨hG M h.lt h.gM, h.ne, h.own, fun s => (h.rows s).mono hG, h.apart⟩
theorem Tab.lt {w : World} {F : Nat → Prop} {B : Nat} {l : List Ver} {top : Int} (h : Tab w F B l top) : B < w.heap.size := World.block_lt_of_cell? _ _ h.c1
theorem Tab.but {w w' : World} {E F : Nat → Prop} {B : Nat} {l : List Ver} {top : Int} (h : Tab w F B l top) (hb : But E w w') (hE : ∀ j, j < w.heap.size → F j → ¬ E j) : Tab w' F B l top := by
  have hB := hE B h.lt h.gB
  obtain ⟨M, D, h0, hm⟩ := h.mp
  exact ⟨h.gB, (hb.cell (p := ⟨B, 1, none⟩) h.lt hB).trans h.c1, (hb.frozen (p := ⟨B, 1, none⟩) h.lt hB).trans h.f1, M, D, (hb.cell (p := ⟨B, 0, none⟩) h.lt hB).trans h0, hm.but hb hE⟩
theorem Tab.step {w w' : World} {F : Nat → Prop} {B : Nat} {l : List Ver} {top : Int} (h : Tab w F B l top) (hb : Below w.heap.size w w') : Tab w' F B l top := h.but (E := fun _ => False) (.below hb) (fun _ _ _ => id)
theorem Tab.mono {F G : Nat → Prop} {w : World} {B : Nat} {l : List Ver} {top : Int} (h : Tab w F B l top) (hG : ∀ j, j < w.heap.size → F j → G j) : Tab w G B l top := by
  obtain ⟨M, D, h0, hm⟩ := h.mp
  exact ⟨hG B h.lt h.gB, h.c1, h.f1, M, D, h0, hm.mono hG⟩
theorem keyed : Keyed Tryz.prog 9 := string_keyed Tryz.underlying9
/-- What is looked up: the history, or none. -/
theorem Mp.got {w : World} {F : Nat → Prop} {B M : Nat} {D : DataW Value} {l : List Ver} (h : Mp w F B M D l) (s : ByteArray) : ∃ p c, (look D (kS s)).getD (.slice none 0 0) = .slice p (hs l s).length c ∧ (hs l s).length ≤ c ∧ c ≤ maxLen ∧ HiAt w p (hs l s) := by
  rcases h.rows s with ⟨h1, h2⟩ | ⟨h1, g, c, h2, h3, h4, h5, h6⟩
  · rw [h1, h2]; exact ⟨none, 0, rfl, Nat.zero_le _, Nat.zero_le _, .nil _ _⟩
  · rw [h2]
    obtain ⟨_, h7, h8⟩ := own_cap h6
    exact ⟨some ⟨g, 0, none⟩, c, rfl, h7, h8, fun _ => ⟨g, rfl, own_lt h6, hiC_own h6⟩⟩
theorem Mp.found {w : World} {F : Nat → Prop} {B M : Nat} {D : DataW Value} {l : List Ver} (h : Mp w F B M D l) {s : ByteArray} {v : Value} (hv : look D (kS s) = some v) : hs l s ≠ [] ∧ ∃ g c, v = sl g (hs l s).length c ∧ (hs l s).length ≤ c ∧ c ≤ maxLen ∧ g < w.heap.size ∧ HiC w g 0 (hs l s) := by
  rcases h.rows s with ⟨h1, h2⟩ | ⟨h1, g, c, h2, h3, h4, h5, h6⟩
  · rw [h2] at hv; cases hv
  · rw [h2] at hv
    obtain ⟨_, h7, h8⟩ := own_cap h6
    exact ⟨h1, g, c, (Option.some.inj hv).symm, h7, h8, own_lt h6, hiC_own h6⟩
/-- A key is there just if it has versions. -/
theorem Mp.has {w : World} {F : Nat → Prop} {B M : Nat} {D : DataW Value} {l : List Ver} (h : Mp w F B M D l) (s : ByteArray) : Maps.has D (kS s) = !decide (hs l s = []) := by
  obtain ⟨n, ho⟩ := h.own
  rw [(look_at ho (kS s) undef).2]
  rcases h.rows s with ⟨h1, h2⟩ | ⟨h1, g, c, h2, _⟩
  · simp [h1, h2]
  · simp [h1, h2]
theorem kS_of (x : List UInt8) : kS ⟨x.toArray⟩ = .string x := rfl
theorem nodup_keys {w : World} {P : Program} {k b n : Nat} {D : DataW Value} (ho : w.ownsMap P k anyE b n D) (K : Keyed P k) (hk : P.underlying k = some .string) : (strKeys D).Nodup ∧ (∀ x, x ∈ strKeys D ↔ Maps.has D (.string x) = true) ∧ (strKeys D).length = Maps.size D := by
  obtain ⟨es, hD, hpw, _⟩ := ho.entries K
  obtain ⟨es', hD', hko⟩ := ho.keysOf
  obtain rfl : es = es' := by rw [hD] at hD'; simpa using hD'
  subst hD
  have hst : ∀ p ∈ es, ∃ x, p.1 = .string x := fun p hp => by
    obtain ⟨v, hv⟩ := hko p hp
    obtain ⟨x, _, hx, _⟩ := Maps.keyOf_str hk hv
    exact ⟨x, hx⟩
  refine ⟨?_, fun x => ?_, by simp [strKeys, Maps.size]⟩
  · show (es.map fun p => strOf p.1).Nodup
    refine List.pairwise_map.2 (hpw.imp_of_mem fun {p q} hp' hq' hne e => hne ?_)
    obtain ⟨a, ha⟩ := hst p hp'
    obtain ⟨b, hb⟩ := hst q hq'
    rw [ha, hb] at e ⊢
    exact congrArg _ e
  · rw [Maps.has_eq, List.any_eq_true]
    show x ∈ es.map (fun p => strOf p.1) ↔ _
    rw [List.mem_map]
    constructor
    · rintro ⟨p, hp', rfl⟩
      obtain ⟨a, ha⟩ := hst p hp'
      exact ⟨p, hp', by rw [ha]; simp [Lit.sameKey, strOf]⟩
    · rintro ⟨p, hp', hs⟩
      obtain ⟨a, ha⟩ := hst p hp'
      rw [ha] at hs
      exact ⟨p, hp', by rw [ha]; simpa [Lit.sameKey, strOf] using hs⟩
/-- There are no more keys than versions. -/
theorem Mp.tight {w : World} {F : Nat → Prop} {B M : Nat} {D : DataW Value} {l : List Ver} (h : Mp w F B M D l) : w.ownsMap Tryz.prog 9 anyE M l.length D ∧ Maps.size D ≤ l.length := by
  obtain ⟨n, ho⟩ := h.own
  obtain ⟨h1, h2, h3⟩ := nodup_keys ho keyed Tryz.underlying9
  have hle : Maps.size D ≤ l.length := by
    rw [← h3]
    have := Vs.nodup_le (ms := l.map (fun x => x.k.data.toList)) h1 (fun x hx => by
      have hh := (h2 x).1 hx
      rw [← kS_of, h.has] at hh
      have hne : hs l ⟨x.toArray⟩ ≠ [] := by simpa using hh
      obtain ⟨y, hy⟩ := List.exists_mem_of_ne_nil _ hne
      obtain ⟨m1, m2⟩ := mem_hs.1 hy
      exact List.mem_map.2 ⟨y, m1, by rw [m2]⟩)
    simpa using this
  refine ⟨?_, hle⟩
  obtain ⟨es, clock, e1, e2, e3, e4⟩ := ho
  refine ⟨es, clock, e1, e2, ?_, e4⟩
  rw [e4] at hle
  simpa [Maps.size, length_sorted] using hle
end Go.Proofs.YtickoadcficdeaaGreatDoor
