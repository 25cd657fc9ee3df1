/-
  Rows of the call's own whose places behind the length hold the zero value: elements of one cell.
-/
import Derived.Test.YtdikgjbpjdnodaaGreatT01
import Derived.Test.YtdikgjbpjdnodaaGreatT00
import Derived.Laws.AppendOwnNone
import Derived.Test.YtdikgjbpjdnodaaGreatShelf
import Derived.Laws.IdiomStrings
import Derived.Lib.BufStepsIn
import Derived.Deep.RegionHeld3
import Derived.Laws.CopyOwn
import Derived.Lib.LazyBuf
import Derived.Deep.QuietTactic
import Derived.BigQuiet
import Derived.Laws.Panics
namespace Go.Proofs.YtdikgjbpjdnodaaGreat
open Go.RowKit
set_option linter.unusedVariables false
set_option maxRecDepth 100000

/-- v is nil, or a row in a block from B on: the cells cs, then zeros up to the capacity. -/
def OwnZ (w : World) (B : Nat) (e : TypeId) (z : Value) (v : Value) (cs : List Value) : Prop :=
  (v = .slice none 0 0 ∧ cs = []) ∨ ∃ g cap, v = .slice (some ⟨g, 0, none⟩) cs.length cap ∧ B ≤ g ∧ cs.length ≤ cap ∧ cap ≤ maxLen ∧ w.heap[g]? = some (.cells (cs ++ List.replicate (cap - cs.length) z).toArray e (0, 0))

section
variable {w w' : World} {B B' : Nat} {e : TypeId} {z v : Value} {cs : List Value} {G : Nat → Prop}
theorem OwnZ.nil (w : World) (B : Nat) (e : TypeId) (z : Value) : OwnZ w B e z (.slice .none 0 0) [] := .inl ⟨rfl, rfl⟩
theorem OwnZ.lt (h : OwnZ w B e z v cs) : ∀ k, v.ownBlock = some k → B ≤ k ∧ k < w.heap.size := by
  intro k hk
  rcases h with ⟨rfl, _⟩ | ⟨g, cap, rfl, hB, _, _, hg⟩
  · simp [Value.ownBlock] at hk
  · simp [Value.ownBlock] at hk
    subst hk
    exact ⟨hB, (Array.getElem?_eq_some_iff.1 hg).1⟩
theorem OwnZ.aside (h : OwnZ w B e z v cs) (ha : Aside G w w') (hG : ∀ b, B ≤ b → ¬ G b) : OwnZ w' B e z v cs := by
  have hlt := h.lt
  rcases h with h2 | ⟨g, cap, hv, hg, h1, h2, hh⟩
  · exact .inl h2
  · exact .inr ⟨g, cap, hv, hg, h1, h2, (ha.block g (by subst hv; exact (hlt g rfl).2) (hG g hg)).trans hh⟩
theorem OwnZ.mono (h : OwnZ w B e z v cs) (hB : B' ≤ B) : OwnZ w B' e z v cs := by
  rcases h with h2 | ⟨g, cap, hv, hg, r⟩
  · exact .inl h2
  · exact .inr ⟨g, cap, hv, Nat.le_trans hB hg, r⟩
theorem OwnZ.below (h : OwnZ w B e z v cs) (hb : Below w.heap.size w w') : OwnZ w' B e z v cs := h.aside (G := fun _ => False) (Aside.of_all hb) fun _ _ h => h
theorem OwnZ.owns (h : OwnZ w B e z v cs) : w.ownsRow B e 1 v cs.length cs := by
  refine ⟨by simp, ?_⟩
  rcases h with ⟨rfl, rfl⟩ | ⟨g, cap, rfl, hg, h1, h2, hh⟩
  · exact .inl ⟨rfl, rfl⟩
  · exact .inr ⟨g, cap, _, rfl, hg, hh, h1, h2, by simp; omega, by simp⟩
end

theorem zeroCells_one (z : Value) (hz : z.cells = #[z]) (n : Nat) : Builtin.zeroCells z.cells n = (List.replicate n z).toArray := by
  rw [hz]
  apply Array.ext
  · simp [Builtin.zeroCells]
  · intro i h1 h2
    simp [Builtin.zeroCells, Nat.mod_one]

theorem run_append_Z {P : Program} {w : World} (B : Nat) (t ty e : TypeId) (i : TypeInfo) (z : Value) (bytes : Nat) (ht : P.underlying t = some (.slice e)) (hi : P.info? e = some i) (hz : i.zero = some z)
    (hsize : i.size = 1) (hby : i.bytes = bytes) (hzs : z.cells = #[z]) (v : Value) (cs : List Value) (hown : OwnZ w B e z v cs)
    (a : Addr) (m c : Nat) (news : List Value) (hl : news.length = m) (hnews : ∀ j u, news[j]? = some u → w.cell? (a.add j) = some u) (h1 : ∀ u ∈ news, u.oneCell' = true)
    (h63 : cs.length + m ≤ maxLen) (hbytes : (cs.length + m) * bytes ≤ 140737488355328) (hbase : B ≤ w.heap.size) :
    ∃ v' w', (Builtin.append_ #[t, t] ty #[v, .slice (some a) m c]).run P w = .ok v' w' ∧ OwnZ w' B e z v' (cs ++ news) ∧ w.grownBy w' v.ownBlock := by
  subst hby
  have hsmall : cs.length + m ≤ 9223372036854775807 := by simp only [maxLen] at h63; omega
  rcases hown with ⟨rfl, rfl⟩ | ⟨g, cap, rfl, hbg, hnc, hcm, hg⟩
  · by_cases hm : m = 0
    · subst hm
      have hn : news = [] := List.eq_nil_of_length_eq_zero hl
      subst hn
      refine ⟨.slice none 0 0, w, ?_, OwnZ.nil _ _ _ _, ⟨rfl, rfl, rfl, Nat.le_refl _, fun _ _ _ => rfl⟩⟩
      simp [Builtin.append_, run_underlying ht, sizeOf, typeInfo, hi, Builtin.lenOf, Builtin.firstCells, loadCells, loadCellsFrom]
    · have hr := run_append_nil (P := P) w t ty e i z ht hi hz a m c news (by rw [hsize]; omega) hnews (by omega) (by simp at hsmall; omega) (by simp at hbytes; omega)
      have hge := grownCap_ge w m 0 e
      refine ⟨_, _, hr, .inr ⟨w.heap.size, grownCap w m 0 e, by simp [hl], hbase, by simp [hl]; exact hge, grownCap_le_maxLen w m 0 e (by simpa using h63), ?_⟩, ⟨rfl, rfl, rfl, by simp, fun k hk _ => (by first | exact heap_alloc_old w.drew _ k hk | exact heap_alloc_old w.drew _ hk)⟩⟩
      refine (heap_alloc_new w.drew _).trans ?_
      rw [zeroCells_one z hzs]
      simp [hl]
  · by_cases hroom : cs.length + m ≤ cap
    · have hr := run_append_room (P := P) w t ty e i ht hi g cs.length cap _ hg a m c news (by rw [hsize]; omega) hnews h1 hroom (by rw [hsize]; simp; omega)
      refine ⟨_, _, hr, .inr ⟨g, cap, by simp [hl], hbg, by simp [hl]; exact hroom, hcm, ?_⟩, ⟨rfl, rfl, rfl, by simp, fun k _ hk => setRow_other w g k _ (fun e => hk (by simp [Value.ownBlock, e]))⟩⟩
      rw [setRow_heap w g _ _ e _ hg, hsize]
      have hlist : ((cs ++ List.replicate (cap - cs.length) z).toArray.toList.take (cs.length * 1) ++ news ++ (cs ++ List.replicate (cap - cs.length) z).toArray.toList.drop (cs.length * 1 + news.length)) = cs ++ news ++ List.replicate (cap - (cs ++ news).length) z := by
        have e1 : (cs ++ List.replicate (cap - cs.length) z).drop (cs.length + news.length) = List.replicate (cap - (cs ++ news).length) z := by
          rw [List.drop_append, List.drop_eq_nil_of_le (by omega), List.nil_append, List.drop_replicate, List.length_append]
          congr 1
          omega
        rw [Nat.mul_one, List.toList_toArray, List.take_left, e1]
      rw [hlist]
    · have holds : ∀ j u, cs[j]? = some u → w.cell? ((⟨g, 0, none⟩ : Addr).add j) = some u := fun j u hu => by
        have hj := (List.getElem?_eq_some_iff.1 hu).1
        rw [WideShapes.add_plain, Nat.zero_add, World.cell?, hg]
        simp [List.getElem?_append_left hj, hu]
      have hr := run_append_grow (P := P) w t ty e i z ht hi hz ⟨g, 0, none⟩ cs.length cap cs (by rw [hsize]; omega) holds a m c news (by rw [hsize]; omega) hnews (by omega) (by omega) (growslice_fits (by omega) hbytes)
      have hge := grownCap_ge w (cs.length + m) cap e
      refine ⟨_, _, hr, .inr ⟨w.heap.size, grownCap w (cs.length + m) cap e, by simp [hl], hbase, by simp [hl]; exact hge, grownCap_le_maxLen w _ cap e h63, ?_⟩, ⟨rfl, rfl, rfl, by simp, fun k hk _ => (by first | exact heap_alloc_old w.drew _ k hk | exact heap_alloc_old w.drew _ hk)⟩⟩
      refine (heap_alloc_new w.drew _).trans ?_
      rw [zeroCells_one z hzs]
      simp [hl]
end Go.Proofs.YtdikgjbpjdnodaaGreat

/-
  Slices of texts as lists of lists of bytes; rows of the call's own; append; cuts.
-/
namespace Go.Proofs.YtdikgjbpjdnodaaGreat
open Go.RowKit
set_option linter.unusedVariables false
set_option maxRecDepth 100000

/-- A text as a value. -/
def tv (x : List UInt8) : Value := .string (bs x)

/-- The slice value v reads as the texts l; what it leads to lies in blocks from lo on, below hi. -/
def St (w : World) (lo hi : Nat) (v : Value) (l : List (List UInt8)) : Prop :=
  ∃ a c, v = .slice a l.length c ∧ l.length ≤ c ∧ (a = none → c = 0) ∧ (0 < l.length → ∃ b off, a = some ⟨b, off, none⟩ ∧ lo ≤ b ∧ b < hi ∧ ∀ j, j < l.length → w.cell? ⟨b, off + j, none⟩ = some (tv (l.getD j [])))

section
variable {w w' : World} {lo hi lo' hi' B : Nat} {v : Value} {l : List (List UInt8)}
theorem St.keep (h : St w lo hi v l) (hk : ∀ b o, lo ≤ b → b < hi → b < w.heap.size → w'.cell? ⟨b, o, none⟩ = w.cell? ⟨b, o, none⟩) : St w' lo hi v l := by
  obtain ⟨a, c, rfl, hc, hn, hp⟩ := h
  refine ⟨a, c, rfl, hc, hn, fun h0 => ?_⟩
  obtain ⟨b, off, rfl, h1, h2, h3⟩ := hp h0
  exact ⟨b, off, rfl, h1, h2, fun j hj => (hk b _ h1 h2 (World.block_lt_of_cell? w _ (h3 j hj))).trans (h3 j hj)⟩
theorem St.below (h : St w lo hi v l) (hb : Below B w w') (hB : hi ≤ B) : St w' lo hi v l :=
  h.keep fun b o _ h2 _ => hb.cell (p := ⟨b, o, none⟩) (Nat.lt_of_lt_of_le h2 hB)
theorem St.later (h : St w lo hi v l) (hb : Below w.heap.size w w') : St w' lo hi v l :=
  h.keep fun b o _ _ h3 => hb.cell (p := ⟨b, o, none⟩) h3
theorem St.aside {G : Nat → Prop} (h : St w lo hi v l) (ha : Aside G w w') (hG : ∀ b, lo ≤ b → b < hi → ¬ G b) : St w' lo hi v l :=
  h.keep fun b o h1 h2 h3 => ha.cell (p := ⟨b, o, none⟩) h3 (hG b h1 h2)
theorem St.wide (h : St w lo hi v l) (h1 : lo' ≤ lo) (h2 : hi ≤ hi') : St w lo' hi' v l := by
  obtain ⟨a, c, rfl, hc, hn, hp⟩ := h
  refine ⟨a, c, rfl, hc, hn, fun h0 => ?_⟩
  obtain ⟨b, off, rfl, h3, h4, h5⟩ := hp h0
  exact ⟨b, off, rfl, by omega, by omega, h5⟩
theorem St.top (h : St w lo hi v l) : St w 0 w.heap.size v l := by
  obtain ⟨a, c, rfl, hc, hn, hp⟩ := h
  refine ⟨a, c, rfl, hc, hn, fun h0 => ?_⟩
  obtain ⟨b, off, rfl, h3, h4, h5⟩ := hp h0
  exact ⟨b, off, rfl, Nat.zero_le _, World.block_lt_of_cell? w _ (h5 0 h0), h5⟩
theorem St.nil (w : World) (lo hi : Nat) : St w lo hi (.slice none 0 0) [] := ⟨_, 0, rfl, by simp, fun _ => rfl, fun h => by simp at h⟩
end

theorem Tryz.infoT : (Tryz.prog.info? 9).map (fun i => (i.zero, i.size, i.bytes)) = some (some (.string ⟨#[]⟩), 1, 16) := by kernel_rfl

theorem texts_oneCell (l : List (List UInt8)) : ∀ u ∈ l.map tv, u.oneCell' = true := by
  intro u hu
  obtain ⟨x, _, rfl⟩ := List.mem_map.mp hu
  rfl

/-- v is nil, or a row of the call's own, in blocks from B on, which holds the texts l, then empty ones. -/
def OwnT (w : World) (B : Nat) (v : Value) (l : List (List UInt8)) : Prop := OwnZ w B 9 (.string ⟨#[]⟩) v (l.map tv)

theorem OwnT.nil (w : World) (B : Nat) : OwnT w B (.slice .none 0 0) [] := OwnZ.nil _ _ _ _
theorem OwnT.lt {w : World} {B : Nat} {v : Value} {l : List (List UInt8)} (h : OwnT w B v l) : ∀ k, v.ownBlock = some k → B ≤ k ∧ k < w.heap.size := OwnZ.lt h
theorem OwnT.aside {w w' : World} {B : Nat} {v : Value} {l : List (List UInt8)} {G : Nat → Prop} (h : OwnT w B v l) (ha : Aside G w w') (hG : ∀ b, B ≤ b → ¬ G b) : OwnT w' B v l := OwnZ.aside h ha hG
theorem OwnT.mono {w : World} {B B' : Nat} {v : Value} {l : List (List UInt8)} (h : OwnT w B v l) (hB : B' ≤ B) : OwnT w B' v l := OwnZ.mono h hB
theorem OwnT.below {w w' : World} {B : Nat} {v : Value} {l : List (List UInt8)} (h : OwnT w B v l) (hb : Below w.heap.size w w') : OwnT w' B v l := OwnZ.below h hb
theorem OwnT.setCell {w : World} {B : Nat} {v : Value} {l : List (List UInt8)} (h : OwnT w B v l) {p : Addr} (hp : p.block < B) (u : Value) : OwnT (w.setCell p u) B v l :=
  h.aside (G := fun b => b = p.block) (Aside.setCell _ _ rfl) fun b hb e => by omega

theorem OwnT.shape {w : World} {B : Nat} {v : Value} {l : List (List UInt8)} (h : OwnT w B v l) : ∃ a c, v = .slice a l.length c := by
  rcases h with ⟨rfl, h0⟩ | ⟨g, cap, rfl, _⟩
  · have : l = [] := by simpa using h0
    subst this
    exact ⟨.none, 0, rfl⟩
  · exact ⟨_, cap, by rw [List.length_map]⟩

theorem OwnT.st {w : World} {B : Nat} {v : Value} {l : List (List UInt8)} (h : OwnT w B v l) : St w B w.heap.size v l := by
  have hlt := h.lt
  rcases h with ⟨rfl, h0⟩ | ⟨g, cap, rfl, hB, hc, _, hg⟩
  · have : l = [] := by simpa using h0
    subst this
    exact St.nil _ _ _
  · rw [List.length_map] at hc
    refine ⟨some ⟨g, 0, .none⟩, cap, by rw [List.length_map], hc, fun h => by simp at h, fun _ => ⟨g, 0, rfl, hB, (hlt g rfl).2, fun j hj => ?_⟩⟩
    rw [Nat.zero_add, World.cell?, hg]
    simp [List.getElem?_append_left, hj]

theorem st_one (w : World) (x : List UInt8) : St (w.alloc (.cells #[tv x] 9)) w.heap.size (w.heap.size + 1) (.slice (some ⟨w.heap.size, 0, .none⟩) 1 1) [x] := by
  refine ⟨_, 1, rfl, by simp, fun h => by simp at h, fun _ => ⟨_, _, rfl, Nat.le_refl _, by omega, fun j hj => ?_⟩⟩
  obtain rfl : j = 0 := by simpa using hj
  simp [go_sem]

/-- append of texts, as it runs. -/
theorem run_appTs {w : World} (B lo hi : Nat) (v xv : Value) (l l' : List (List UInt8)) (hown : OwnT w B v l) (hx : St w lo hi xv l') (hb : l.length + l'.length ≤ 1000000) (hB : B ≤ w.heap.size) (h0 : xv = .slice .none 0 0 → l' = []) :
    ∃ a' c' w', (Builtin.append_ #[105, 105] 105 #[v, xv]).run Tryz.prog w = .ok (.slice a' (l.length + l'.length) c') w' ∧ OwnT w' B (.slice a' (l.length + l'.length) c') (l ++ l') ∧ w.grownBy w' v.ownBlock := by
  obtain ⟨i0, hi, hz0, hz1, hz2⟩ := info_parts Tryz.infoT
  obtain ⟨ad, c, rfl, hc, hn, hp⟩ := hx
  have fin : ∀ v' w', (Builtin.append_ #[105, 105] 105 #[v, .slice ad l'.length c]).run Tryz.prog w = .ok v' w' → OwnT w' B v' (l ++ l') → w.grownBy w' v.ownBlock → ∃ a' c' w', (Builtin.append_ #[105, 105] 105 #[v, .slice ad l'.length c]).run Tryz.prog w = .ok (.slice a' (l.length + l'.length) c') w' ∧ OwnT w' B (.slice a' (l.length + l'.length) c') (l ++ l') ∧ w.grownBy w' v.ownBlock := by
    intro v' w' h1 h2 h3
    obtain ⟨a', c', hv⟩ := h2.shape
    rw [List.length_append] at hv
    subst hv
    exact ⟨a', c', w', h1, h2, h3⟩
  rcases ad with _ | ad
  · have hc0 := hn rfl
    subst hc0
    have hl0 : l' = [] := List.eq_nil_of_length_eq_zero (by omega)
    subst hl0
    have hr := run_append_owned_none (P := Tryz.prog) (w := w) B 105 105 9 i0 1 Tryz.underlying105 hi v l.length (l.map tv) (by have := hown.owns; rwa [List.length_map] at this)
    exact fin v w hr (by rw [List.append_nil]; exact hown) ⟨rfl, rfl, rfl, Nat.le_refl _, fun _ _ _ => rfl⟩
  · obtain ⟨v', w', h1, h2, h3⟩ := run_append_Z (P := Tryz.prog) (w := w) B 105 105 9 i0 (.string ⟨#[]⟩) 16 Tryz.underlying105 hi hz0 hz1 hz2 rfl v (l.map tv) hown ad l'.length c (l'.map tv) (by simp)
      (fun j u hu => by
        rw [List.getElem?_map] at hu
        obtain ⟨n, hq, rfl⟩ := Option.map_eq_some_iff.mp hu
        have hj : j < l'.length := (List.getElem?_eq_some_iff.mp hq).1
        obtain ⟨b, off, he, _, _, hcell⟩ := hp (by omega)
        injection he with he
        subst he
        rw [WideShapes.add_plain, hcell j hj, List.getD, hq]; rfl) (texts_oneCell _) (by rw [List.length_map]; unfold maxLen; omega) (by rw [List.length_map]; omega) hB
    exact fin v' w' h1 (by unfold OwnT; rw [List.map_append]; exact h2) h3

theorem run_appT {w : World} (B : Nat) (v : Value) (l : List (List UInt8)) (y : List UInt8) (g : Nat) (hown : OwnT w B v l) (hy : w.cell? ⟨g, 0, .none⟩ = some (tv y)) (hb : l.length + 1 ≤ 1000000) (hB : B ≤ w.heap.size) :
    ∃ a' c' w', (Builtin.append_ #[105, 105] 105 #[v, .slice (some ⟨g, 0, .none⟩) 1 1]).run Tryz.prog w = .ok (.slice a' (l.length + 1) c') w' ∧ OwnT w' B (.slice a' (l.length + 1) c') (l ++ [y]) ∧ w.grownBy w' v.ownBlock :=
  run_appTs B g (g + 1) v (.slice (some ⟨g, 0, .none⟩) 1 1) l [y] hown ⟨_, 1, rfl, by simp, fun h => by simp at h, fun _ => ⟨g, 0, rfl, Nat.le_refl _, by omega, fun j hj => by
    obtain rfl : j = 0 := by simpa using hj
    simpa using hy⟩⟩ hb hB (fun h => by simp at h)

theorem wpList_append_run {w w' : World} {v v' xv : Value} {ops : Array Oper} {rest : List Oper} {o : Oper} {a : Act} {Q : Exit → Act → World → Prop} (s x : Operand) (t u : TypeId)
    (ho : o.op = .call { callee := .builtin .append, args := #[s, x], argTypes := #[t, u] }) (hgd : o.guard = .none) (hs : a.eval s = v) (hx : a.eval x = xv)
    (hrun : (Builtin.append_ #[t, u] o.type #[v, xv]).run Tryz.prog w = .ok v' w') (h : wpList Tryz.prog ops Q rest (a.put o.dst v') w') : wpList Tryz.prog ops Q (o :: rest) a w := by
  refine wpList_step fun K hK => ?_
  rw [if_pos (by simp [Region.wanted, hgd])]
  unfold Oper.wp
  simp [execOp, ho, resolve, invoke, builtin, hs, hx, hrun, Result.andThen]
  exact hK _ _ h

theorem wpList_appT {w : World} {ops : Array Oper} {rest : List Oper} {o : Oper} {a : Act} {Q : Exit → Act → World → Prop} (hgd : o.guard = .none) (s x : Operand)
    (ho : o.op = .call { callee := .builtin .append, args := #[s, x], argTypes := #[105, 105] }) (hty : o.type = 105)
    (B lo hi : Nat) (v xv : Value) (l l' : List (List UInt8)) (hs : a.eval s = v) (hx : a.eval x = xv) (hown : OwnT w B v l) (hsl : St w lo hi xv l') (hb : l.length + l'.length ≤ 1000000) (hB : B ≤ w.heap.size)
    (h : ∀ a' c' w', Hid (OwnT w' B (.slice a' (l.length + l'.length) c') (l ++ l')) → Hid (Below B w w') → wpList Tryz.prog ops Q rest (a.put o.dst (.slice a' (l.length + l'.length) c')) w') : wpList Tryz.prog ops Q (o :: rest) a w := by
  have h0 : xv = .slice .none 0 0 → l' = [] := fun e => by
    obtain ⟨ad, c, rfl, _⟩ := hsl
    injection e with e1 e2 e3
    exact List.eq_nil_of_length_eq_zero e2
  obtain ⟨a', c', w', h1, h2, h3⟩ := run_appTs B lo hi v xv l l' hown hsl hb hB h0
  refine wpList_append_run s x 105 105 ho hgd hs hx (by rw [hty]; exact h1) (h a' c' w' h2 ((Below.refl _ _).grown h3 hB fun k hk => (hown.lt k hk).1))

/-- A text of a slice, loaded. -/
theorem St.cell {w : World} {lo hi c : Nat} {a : Option Addr} {l : List (List UInt8)} (h : St w lo hi (.slice a l.length c) l) (h0 : 0 < l.length) :
    ∃ b off, a = some ⟨b, off, none⟩ ∧ lo ≤ b ∧ b < hi ∧ ∀ j, j < l.length → w.cell? ⟨b, off + j, none⟩ = some (tv (l.getD j [])) := by
  obtain ⟨a', c', he, hc, hn, hq⟩ := h
  injection he with e1 e2 e3
  subst e1; subst e3
  exact hq h0
end Go.Proofs.YtdikgjbpjdnodaaGreat

/-
  strings.Clone; Labels.
-/
namespace Go.Proofs.YtdikgjbpjdnodaaGreat
open Go.RowKit Go.Shelf
set_option linter.unusedVariables false
set_option maxRecDepth 100000
attribute [local go_sem] Oper.semAt_some

theorem clone_any (s : ByteArray) (hs : s.size ≤ 1000000) (w : World) : Calls Tryz.prog 49 #[.string s] w (Tells w (.string s)) := by
  have H := Lib.hid (fun w => Tryz.stringslite_Clone s w (by omega))
  go_enter Tryz.func49, Tryz.ntmps49
  go_wp2_with (go_at_call 61; refine (H.out _).mono ?_; rintro e w1 ⟨rfl, hb⟩; have HB := Lib.hid hb; clear hb)
  go_ret
  exact ⟨rfl, HB.out⟩

/-- The labels that are told. -/
def lbs (n : List UInt8) : List (List UInt8) := if chk n = 0 then labs n else []

/-- Labels' answer: a row of the call's own, and the error. -/
def LabsPost (w : World) (n : List UInt8) (e : Ending) (w' : World) : Prop := ∃ v, e = .returned (.tuple #[v, .int .i64 (chk n)]) ∧ OwnT w' w.heap.size v (lbs n) ∧ Below w.heap.size w w'

end Go.Proofs.YtdikgjbpjdnodaaGreat

/-
  Lower, the program's and the document's.
-/
namespace Go.Proofs.YtdikgjbpjdnodaaGreat
open Go.RowKit
set_option linter.unusedVariables false
set_option maxRecDepth 100000

/-- A byte in lower form; bytes in lower form. -/
def lw (c : UInt8) : UInt8 := if 65 ≤ c.toNat ∧ c.toNat ≤ 90 then c + 32 else c
def low (l : List UInt8) : List UInt8 := l.map lw

/-- Block g begins with these bytes, which may be written. -/
def Buf (w : World) (g : Nat) (l : List UInt8) : Prop := ∀ j, j < l.length → w.cell? ⟨g, j, none⟩ = some (.int .u8 ((l.getD j 0).toNat : Nat)) ∧ w.frozen? ⟨g, j, none⟩ = false

theorem Buf.set {w : World} {g : Nat} {l : List UInt8} (h : Buf w g l) (k : Nat) (hk : k < l.length) (c : UInt8) : Buf (w.setCell ⟨g, k, none⟩ (.int .u8 (c.toNat : Nat))) g (l.set k c) := by
  intro j hj
  rw [List.length_set] at hj
  rw [World.frozen?_setCell]
  refine ⟨?_, (h j hj).2⟩
  by_cases e : j = k
  · subst e
    rw [World.cell?_setCell_same _ _ _ (h j hj).1]
    simp [hj]
  · rw [World.cell?_setCell_other _ _ _ _ (by first | (simp; done) | (simp; omega)), (h j hj).1]
    simp [List.getElem?_set_ne (Ne.symm e)]

theorem Buf.row {w : World} {s : List UInt8} {cap : Nat} {t : TypeId} (hcap : s.length ≤ cap) : Buf (w.drew.alloc (.cells (bytesRow (bs s) cap) t ((bytesRow (bs s) cap).size, (bytesRow (bs s) cap).size + 1))) w.heap.size s := by
  intro j hj
  have h1 := World.cell?_alloc_mark w.drew (bytesRow (bs s) cap) t ((bytesRow (bs s) cap).size, (bytesRow (bs s) cap).size + 1) j
  have h2 := World.frozen?_alloc_mark w.drew (bytesRow (bs s) cap) t (bytesRow (bs s) cap).size ((bytesRow (bs s) cap).size + 1) j
  have hsz : j < (bytesRow (bs s) cap).size := by simp [bytesRow, bs]; omega
  refine ⟨h1.trans ?_, h2.trans ?_⟩
  · rw [bytesRow_at (bs s) cap j (by simpa [bs] using hj)]
    simp [bs, hj]
  · simp; omega

end Go.Proofs.YtdikgjbpjdnodaaGreat

/-
  The document's labels; its Check.
-/
namespace Go.Proofs.YtdikgjbpjdnodaaGreat
open Go.RowKit
set_option linter.unusedVariables false
set_option maxRecDepth 100000

theorem rlabels_post {w wr : World} {n : List UInt8} {c : Int} (hc : chk n = c) (h0 : c ≠ 0) (hb : Below w.heap.size w wr) : LabsPost w n (.returned (.tuple #[.slice none 0 0, .int .i64 c])) wr := by
  subst hc
  exact ⟨_, rfl, by unfold lbs; rw [if_neg h0]; exact OwnT.nil _ _, hb⟩

set_option maxHeartbeats 2000000 in
theorem rlabels_any (n : List UInt8) (hn : n.length ≤ 1000000) (w : World) : Calls Tryz.prog 60 #[.string (bs n)] w (LabsPost w n) := by
  go_enter Tryz.func60, Tryz.ntmps60
  go_wp2
  go_loopw [4, 5] (fun v i wr => ∃ (p : Nat) (pre : List (List UInt8)), p ≤ n.length ∧ i = .int .i64 p ∧ Hid (OwnT wr w.heap.size v pre) ∧ Hid (labs n = pre ++ labs (n.drop p) ∧ left n = left (n.drop p) ∧ pre.length ≤ p) ∧ Hid (Below w.heap.size w wr)) (fun _ i _ => n.length - (intOf i).toNat)
  case atStart => exact ⟨0, [], Nat.zero_le _, rfl, OwnT.nil _ _, ⟨rfl, rfl, by simp⟩, Below.refl _ _⟩
  case round =>
    obtain ⟨p, pre, hp, rfl, HO, HL, HB⟩ := hrel
    by_cases hlt : p < n.length
    · have hix := ix_run n p hlt
      have hc8 : n[p].toNat < 256 := n[p].toNat_lt
      have hstep := labs_yes n p hlt
      have hno := labs_no n p hlt
      have hcut := cut_run n (p + 1) (p + 1 + n[p].toNat) (by omega)
      have hdrop : n.drop p = n[p] :: n.drop (p + 1) := List.drop_eq_getElem_cons hlt
      by_cases hz : n[p].toNat = 0
      · have hl : left n = n[p] :: n.drop (p + 1) := by rw [HL.out.2.1, (hno (.inl hz)).2, hdrop]
        have hz0 : n[p] = 0 := by
          apply UInt8.toNat_inj.mp
          rw [hz]; rfl
        rw [hz0] at hl
        have hla : labs n = pre := by rw [HL.out.1, (hno (.inl hz)).1, List.append_nil]
        rw [hz] at hix
        clear hstep hno hcut hdrop hz hz0 hc8
        by_cases he : p + 1 = n.length
        · have hl0 : left n = [0] := by rw [hl, List.drop_eq_nil_of_le (by omega)]
          have tz : ((p : Int) != n.length - 1) = false := by simp; omega
          by_cases hbig : 255 < n.length
          · have h3 : chk n = 3 := by unfold chk; rw [if_pos hl0, if_pos hbig]
            have HP := Lib.hid (rlabels_post h3 (by decide) HB.out)
            have t3 : decide ((255 : Int) < n.length) = true := by simp; omega
            clear hl hl0 h3 hla
            go_wp2
            go_ret2
            exact HP.out
          · have h0 : chk n = 0 := by unfold chk; rw [if_pos hl0, if_neg hbig]
            have HP := Lib.hid (show ∀ v, OwnT wr w.heap.size v pre → LabsPost w n (.returned (.tuple #[v, .int .i64 0])) wr from fun v hv => ⟨v, by rw [h0], by unfold lbs; rw [if_pos h0, hla]; exact hv, HB.out⟩)
            have t3 : decide ((255 : Int) < n.length) = false := by simp; omega
            clear hl hl0 h0 hla
            go_wp2
            go_ret2
            exact HP.out _ HO.out
        · have h4 : chk n = 4 := by
            unfold chk
            rw [if_neg]
            rw [hl]
            intro e
            injection e with e1 e2
            have := congrArg List.length e2
            simp at this
            omega
          have HP := Lib.hid (rlabels_post h4 (by decide) HB.out)
          have tz : ((p : Int) != n.length - 1) = true := by simp; omega
          clear hl h4 hla
          go_wp2
          go_ret2
          exact HP.out
      · by_cases hbad : 63 < n[p].toNat ∨ n.length < p + 1 + n[p].toNat
        · have hl : left n = n[p] :: n.drop (p + 1) := by rw [HL.out.2.1, (hno (.inr hbad)).2, hdrop]
          have h4 : chk n = 4 := by
            unfold chk
            rw [if_neg]
            rw [hl]
            intro e
            injection e with e1 e2
            rw [e1] at hz
            exact hz rfl
          have HP := Lib.hid (rlabels_post h4 (by decide) HB.out)
          obtain ⟨c, hcn⟩ : ∃ c, n[p].toNat = c := ⟨_, rfl⟩
          rw [hcn] at hix hc8 hz hbad
          clear hstep hno hcut hdrop hl h4 hcn
          have t1 : ((c : Int) == 0) = false := by simp; omega
          have hor : decide ((63 : Int) < c) = true ∨ (decide ((63 : Int) < c) = false ∧ decide ((n.length : Int) < p + 1 + c) = true) := by
            by_cases h : 63 < c
            · exact .inl (by simp; omega)
            · exact .inr ⟨by simp; omega, by simp; omega⟩
          clear hbad
          rcases hor with t2 | ⟨t2, t3⟩
          all_goals
            go_wp2
            go_ret2
            exact HP.out
        · have hcut := hcut (by omega)
          obtain ⟨h1, h2⟩ := hstep (by omega)
          obtain ⟨c, hcn⟩ : ∃ c, n[p].toNat = c := ⟨_, rfl⟩
          rw [hcn] at hix hc8 hz hbad hcut h1 h2
          rw [show p + 1 + c - (p + 1) = c by omega] at hcut
          push_cast at hcut
          obtain ⟨x, hx⟩ : ∃ x, (n.drop (p + 1)).take c = x := ⟨_, rfl⟩
          rw [hx] at hcut h1
          have t1 : ((c : Int) == 0) = false := by simp; omega
          have t2 : decide ((63 : Int) < c) = false := by simp; omega
          have t3 : decide ((n.length : Int) < p + 1 + c) = false := by simp; omega
          have HL2 := Lib.hid (show labs n = (pre ++ [x]) ++ labs (n.drop (p + 1 + c)) ∧ left n = left (n.drop (p + 1 + c)) ∧ (pre ++ [x]).length ≤ p + 1 + c from
            ⟨by rw [HL.out.1, h1]; simp, HL.out.2.1.trans h2, by have := HL.out.2.2; simp; omega⟩)
          have hpre := HL.out.2.2
          clear hx h1 h2 hdrop hstep hno hcn
          go_wp2_with (at_builtin; refine wpList_appT rfl (.tmp 28) (.tmp 37) rfl rfl w.heap.size ?l1 ?h1 _ _ pre [x] rfl rfl ?a1 ?b1 ?c1 ?d1 ?_)
          case l1 => exact wr.heap.size
          case h1 => exact wr.heap.size + 1
          case a1 => exact HO.out.below ((Below.refl _ _).alloc (Nat.le_refl _) _)
          case b1 => exact st_one wr x
          case c1 => simp; omega
          case d1 => have := HB.out.size; simp; omega
          intro a' c' w' HO2 hb2
          have HB2 := Lib.hid ((HB.out.alloc HB.out.size _).trans hb2)
          clear hb2
          go_wp2
          refine ⟨⟨p + 1 + c, pre ++ [x], by omega, by go_num, HO2, HL2, HB2⟩, ?_⟩
          simp [intOf]; omega
    · have h4 : chk n = 4 := by
        unfold chk
        rw [if_neg]
        rw [HL.out.2.1, (labs_end n p (by omega)).2]
        simp
      have HP := Lib.hid (rlabels_post h4 (by decide) HB.out)
      clear h4
      go_wp2
      go_ret2
      exact HP.out

set_option maxHeartbeats 400000 in
theorem rcheck_any (n : List UInt8) (hn : n.length ≤ 1000000) (w : World) : Calls Tryz.prog 46 #[.string (bs n)] w (Tells w (.int .i64 (chk n))) := by
  have HC := Lib.hid (rlabels_any n hn)
  go_enter Tryz.func46, Tryz.ntmps46
  go_wp2_with (go_at_call 60; refine (HC.out _).mono ?_; rintro e w1 ⟨v, rfl, ho, hb⟩; have HB := Lib.hid hb; clear hb ho)
  go_ret
  exact ⟨rfl, HB.out⟩
end Go.Proofs.YtdikgjbpjdnodaaGreat

/-
  Rows of bytes of the call's own: append of bytes and of texts, in a round and elsewhere.
-/
namespace Go.Proofs.YtdikgjbpjdnodaaGreat
open Go.RowKit
set_option linter.unusedVariables false
set_option maxRecDepth 100000

/-- Bytes as cells. -/
def ub (l : List UInt8) : List Value := l.map fun b => Value.int .u8 (b.toNat : Nat)

theorem ub_one (l : List UInt8) : ∀ u ∈ ub l, u.oneCell' = true := by
  intro u hu
  obtain ⟨x, _, rfl⟩ := List.mem_map.mp hu
  rfl

/-- v is a row of the call's own, in blocks from B on, whose first places hold the bytes l. -/
def OwnU (w : World) (B : Nat) (v : Value) (l : List UInt8) : Prop := w.ownsRowF B 5 1 v l.length (ub l)

theorem OwnU.nil (w : World) (B : Nat) : OwnU w B (.slice .none 0 0) [] := World.ownsRowF_nil _ _ _ _

theorem OwnU.aside {w w' : World} {B : Nat} {v : Value} {l : List UInt8} {G : Nat → Prop} (h : OwnU w B v l) (ha : Aside G w w') (hG : ∀ b, B ≤ b → ¬ G b) : OwnU w' B v l := by
  have hlt := World.ownsRowF.lt h
  refine ⟨h.1, ?_⟩
  rcases h.2 with h2 | ⟨g, cap, cur, fz, hv, hg, hh, r⟩
  · exact .inl h2
  · exact .inr ⟨g, cap, cur, fz, hv, hg, (ha.block g (by subst hv; exact (hlt g rfl).2) (hG g hg)).trans hh, r⟩

theorem OwnU.mono {w : World} {B B' : Nat} {v : Value} {l : List UInt8} (h : OwnU w B v l) (hB : B' ≤ B) : OwnU w B' v l := by
  refine ⟨h.1, ?_⟩
  rcases h.2 with h2 | ⟨g, cap, cur, fz, hv, hg, r⟩
  · exact .inl h2
  · exact .inr ⟨g, cap, cur, fz, hv, Nat.le_trans hB hg, r⟩

theorem OwnU.setCell {w : World} {B : Nat} {v : Value} {l : List UInt8} (h : OwnU w B v l) {p : Addr} (hp : p.block < B) (u : Value) : OwnU (w.setCell p u) B v l :=
  h.aside (G := fun b => b = p.block) (Aside.setCell _ _ rfl) fun b hb e => by omega

theorem OwnU.below {w w' : World} {B : Nat} {v : Value} {l : List UInt8} (h : OwnU w B v l) (hb : Below w.heap.size w w') : OwnU w' B v l :=
  h.aside (G := fun _ => False) (Aside.of_all hb) fun _ _ h => h

theorem OwnU.row {w : World} {B : Nat} {v : Value} {l : List UInt8} (h : OwnU w B v l) : ∀ k, v.ownBlock = some k → B ≤ k := fun k hk => (World.ownsRowF.lt h k hk).1

theorem OwnU.shape {w : World} {B : Nat} {v : Value} {l : List UInt8} (h : OwnU w B v l) : ∃ a c, v = .slice a l.length c ∧ (0 < l.length → ∃ g, a = some ⟨g, 0, .none⟩ ∧ B ≤ g ∧ ∀ j, j < l.length → w.cell? ⟨g, j, .none⟩ = some (.int .u8 ((l.getD j 0).toNat : Nat))) := by
  rcases h.2 with ⟨rfl, h0⟩ | ⟨g, cap, cur, fz, rfl, hg, hh, r⟩
  · exact ⟨.none, 0, by rw [h0], fun h => by omega⟩
  · refine ⟨_, _, rfl, fun _ => ⟨g, rfl, hg, fun j hj => ?_⟩⟩
    have := World.ownsRowF.cells h (g := g) rfl j (.int .u8 ((l.getD j 0).toNat : Nat)) (by unfold ub; rw [List.getElem?_map, List.getElem?_eq_getElem hj, List.getD, List.getElem?_eq_getElem hj]; rfl)
    rw [WideShapes.add_plain, Nat.zero_add] at this
    exact this

/-- append of bytes, as it runs. -/
theorem run_appU {w : World} (B : Nat) (v : Value) (l l' : List UInt8) (g c : Nat) (hown : OwnU w B v l) (hx : ∀ j, j < l'.length → w.cell? ⟨g, j, none⟩ = some (.int .u8 ((l'.getD j 0).toNat : Nat))) (hb : l.length + l'.length ≤ 1000000) (hB : B ≤ w.heap.size) :
    ∃ a' c' w', (Builtin.append_ #[28, 28] 28 #[v, .slice (some ⟨g, 0, none⟩) l'.length c]).run Tryz.prog w = .ok (.slice a' (l.length + l'.length) c') w' ∧ OwnU w' B (.slice a' (l.length + l'.length) c') (l ++ l') ∧ w.grownBy w' v.ownBlock := by
  obtain ⟨i0, hi, hz0, hz1, hz2⟩ := info_parts Tryz.info5
  obtain ⟨v', w', h1, h2, h3, _⟩ := run_append_ownF (P := Tryz.prog) w B 28 28 5 i0 (.int .u8 0) 1 1 Tryz.underlying28 hi hz0 hz1 hz2 rfl (by decide) v l.length (ub l) hown ⟨g, 0, none⟩ l'.length c (ub l') (by simp [ub])
    (fun j u hu => by
      unfold ub at hu
      rw [List.getElem?_map] at hu
      obtain ⟨n, hq, rfl⟩ := Option.map_eq_some_iff.mp hu
      have hj : j < l'.length := (List.getElem?_eq_some_iff.mp hq).1
      rw [WideShapes.add_plain, Nat.zero_add, hx j hj, List.getD, hq]; rfl) (ub_one _) (by unfold maxLen; omega) (by omega) hB
  have h4 : OwnU w' B v' (l ++ l') := by
    show w'.ownsRowF B 5 1 v' (l ++ l').length (ub (l ++ l'))
    rw [List.length_append, ub, List.map_append]
    exact h2
  obtain ⟨a', c', hv, _⟩ := h4.shape
  rw [List.length_append] at hv
  subst hv
  exact ⟨a', c', w', h1, h4, h3⟩

/-- append of a text's bytes, as it runs. -/
theorem run_appS {w : World} (B : Nat) (v : Value) (l l' : List UInt8) (hown : OwnU w B v l) (hb : l.length + l'.length ≤ 1000000) (hB : B ≤ w.heap.size) :
    ∃ a' c' w', (Builtin.append_ #[28, 9] 28 #[v, .string (bs l')]).run Tryz.prog w = .ok (.slice a' (l.length + l'.length) c') w' ∧ OwnU w' B (.slice a' (l.length + l'.length) c') (l ++ l') ∧ w.grownBy w' v.ownBlock := by
  obtain ⟨i0, hi, hz0, hz1, hz2⟩ := info_parts Tryz.info5
  obtain ⟨v', w', h1, h2, h3, _⟩ := Lib.run_append_own_stringF (P := Tryz.prog) w B 28 9 28 5 i0 Tryz.underlying28 Tryz.underlying9 hi hz0 hz1 hz2 v l.length (ub l) hown (bs l') (by rw [bs_size]; unfold maxLen; omega) (by rw [bs_size]; omega) hB
  have h4 : OwnU w' B v' (l ++ l') := by
    show w'.ownsRowF B 5 1 v' (l ++ l').length (ub (l ++ l'))
    rw [List.length_append, ub, List.map_append]
    rw [bs_size] at h2
    exact h2
  obtain ⟨a', c', hv, _⟩ := h4.shape
  rw [List.length_append] at hv
  subst hv
  exact ⟨a', c', w', h1, h4, h3⟩

end Go.Proofs.YtdikgjbpjdnodaaGreat

/-
  long; LentTexts, CopyTexts, SameTexts, OverTexts, KeptTexts.
-/
namespace Go.Proofs.YtdikgjbpjdnodaaGreat
open Go.RowKit Go.Shelf
set_option linter.unusedVariables false
set_option maxRecDepth 100000

/-! ### LentTexts -/
/-- Block g is these texts. -/
def RowT (w : World) (g : Nat) (L : List (List UInt8)) : Prop := w.heap[g]? = some (.cells (L.map tv).toArray 9 (0, 0))

/-- Of block g, c texts, the first k are those of L. -/
def PartT (w : World) (g c : Nat) (L : List (List UInt8)) (k : Nat) : Prop := ∃ l, l.length = c ∧ RowT w g l ∧ ∀ t, t < k → l.getD t [] = L.getD t []

theorem RowT.cell {w : World} {g k : Nat} {L : List (List UInt8)} (h : RowT w g L) (hk : k < L.length) : w.cell? ⟨g, k, none⟩ = some (tv (L.getD k [])) := by
  rw [World.cell?, h]
  simp [hk]
theorem RowT.frozen {w : World} {g k : Nat} {L : List (List UInt8)} (h : RowT w g L) : w.frozen? ⟨g, k, none⟩ = false := by simp [World.frozen?, RowT] at h ⊢; simp [h]
theorem RowT.set {w : World} {g k : Nat} {L : List (List UInt8)} (h : RowT w g L) (x : List UInt8) : RowT (w.setCell ⟨g, k, none⟩ (tv x)) g (L.set k x) := by
  unfold RowT at h ⊢
  simp [World.setCell, Array.getElem?_modify, h, List.map_set]

theorem PartT.cell {w : World} {g c k j : Nat} {L : List (List UInt8)} (h : PartT w g c L k) (hj : j < c) : ∃ x, w.cell? ⟨g, j, none⟩ = some (tv x) := by
  obtain ⟨l, hl, hr, _⟩ := h
  exact ⟨_, hr.cell (by omega)⟩
theorem PartT.frozen {w : World} {g c k j : Nat} {L : List (List UInt8)} (h : PartT w g c L k) : w.frozen? ⟨g, j, none⟩ = false := by
  obtain ⟨l, hl, hr, _⟩ := h
  exact hr.frozen
theorem PartT.step {w : World} {g c k : Nat} {L : List (List UInt8)} (h : PartT w g c L k) (hk : k < c) (x : List UInt8) (hx : x = L.getD k []) : PartT (w.setCell ⟨g, k, none⟩ (tv x)) g c L (k + 1) := by
  obtain ⟨l, hl, hr, ht⟩ := h
  refine ⟨l.set k x, by simpa using hl, hr.set x, fun t htk => ?_⟩
  by_cases e : t = k
  · subst e
    rw [List.getD, List.getElem?_set_self (by omega), ← hx]; rfl
  · rw [List.getD, List.getElem?_set_ne (Ne.symm e)]
    exact ht t (by omega)
theorem PartT.start {w : World} {g m : Nat} {L l : List (List UInt8)} (hL : L.take l.length = l) (hm : l.length ≤ m)
    (h : w.heap[g]? = some (.cells (splice (List.replicate m (Value.string ⟨#[]⟩)) 0 (l.map tv)).toArray 9 (0, 0))) : PartT w g m L l.length := by
  have e : splice (List.replicate m (Value.string ⟨#[]⟩)) 0 (l.map tv) = (l ++ List.replicate (m - l.length) []).map tv := by
    simp [splice, tv, bs]
  rw [e] at h
  refine ⟨_, by simp; omega, h, fun t ht => ?_⟩
  have h1 : L[t]? = l[t]? := by
    have := congrArg (fun x : List (List UInt8) => x[t]?) hL
    simp only [List.getElem?_take, if_pos ht] at this
    exact this
  rw [List.getD, List.getD, List.getElem?_append_left ht, h1]

theorem RowT.st {w : World} {g k : Nat} {L : List (List UInt8)} (h : RowT w g L) (hk : k = L.length) : St w g (g + 1) (.slice (some ⟨g, 0, none⟩) k k) L := by
  subst hk
  exact ⟨_, _, rfl, Nat.le_refl _, fun h => by simp at h, fun _ => ⟨g, 0, rfl, Nat.le_refl _, by omega, fun j hj => by rw [Nat.zero_add]; exact h.cell hj⟩⟩
theorem RowT.lt {w : World} {g : Nat} {L : List (List UInt8)} (h : RowT w g L) : g < w.heap.size := (Array.getElem?_eq_some_iff.mp h).1
theorem RowT.later {w w' : World} {g : Nat} {L : List (List UInt8)} (h : RowT w g L) (hb : Below w.heap.size w w') : RowT w' g L := (hb.block g h.lt).trans h
theorem RowT.aside {w w' : World} {g : Nat} {L : List (List UInt8)} {G : Nat → Prop} (h : RowT w g L) (ha : Aside G w w') (hg : ¬ G g) : RowT w' g L := (ha.block g h.lt hg).trans h
theorem RowT.at_ {w : World} {g g' : Nat} {L : List (List UInt8)} (h : RowT w g L) (e : g = g') : RowT w g' L := e ▸ h

theorem St.news {w : World} {lo hi n c : Nat} {a : Option Addr} {l : List (List UInt8)} (hp : 0 < l.length → ∃ b off, a = some ⟨b, off, none⟩ ∧ lo ≤ b ∧ b < hi ∧ ∀ j, j < l.length → w.cell? ⟨b, off + j, none⟩ = some (tv (l.getD j [])))
    {w' : World} (hb : Below w.heap.size w w') (h0 : 0 < (l.map tv).length) : ∃ ad, a = some ad ∧ ∀ j u, (l.map tv)[j]? = some u → w'.cell? (ad.add j) = some u := by
  obtain ⟨b, off, rfl, _, _, hx⟩ := hp (by simpa using h0)
  refine ⟨_, rfl, fun j u hu => ?_⟩
  rw [List.getElem?_map] at hu
  obtain ⟨n, hn, rfl⟩ := Option.map_eq_some_iff.mp hu
  have hj : j < l.length := (List.getElem?_eq_some_iff.mp hn).1
  rw [WideShapes.add_plain, cell_later hb (hx j hj), List.getD, hn]; rfl

end Go.Proofs.YtdikgjbpjdnodaaGreat

/-
  SameTexts, CopyTexts, OverTexts, KeptTexts.
-/
namespace Go.Proofs.YtdikgjbpjdnodaaGreat
open Go.RowKit Go.Shelf
set_option linter.unusedVariables false
set_option maxRecDepth 100000

/-- A draw or more. -/
def Drawn (w w' : World) : Prop := ∃ n, w' = w.drewN n
theorem Drawn.refl (w : World) : Drawn w w := ⟨0, rfl⟩
theorem Drawn.drew {w w' : World} (h : Drawn w w') : Drawn w w'.drew := by obtain ⟨n, rfl⟩ := h; exact ⟨n + 1, rfl⟩
theorem Drawn.cell {w w' : World} (h : Drawn w w') (p : Addr) : w'.cell? p = w.cell? p := by obtain ⟨n, rfl⟩ := h; rfl
theorem Drawn.below {w w' : World} (h : Drawn w w') (B : Nat) : Below B w w' := by obtain ⟨n, rfl⟩ := h; exact below_drewN (Below.refl _ _) _
theorem Drawn.trans {a b c : World} (h : Drawn a b) (k : Drawn b c) : Drawn a c := by obtain ⟨n, rfl⟩ := h; obtain ⟨m, rfl⟩ := k; exact ⟨n + m, by simp [World.drewN, Nat.add_assoc]⟩

/-! ### CopyTexts -/
/-! ### OverTexts -/
/-- Of block g, from k on, each of the c places holds a text. -/
def TextsFrom (w : World) (g c k : Nat) : Prop := (∀ j, k ≤ j → j < c → ∃ x : List UInt8, x.length ≤ 900000 ∧ w.cell? ⟨g, j, none⟩ = some (tv x)) ∧ ∀ j, w.frozen? ⟨g, j, none⟩ = false

theorem TextsFrom.step {w : World} {g c k : Nat} (h : TextsFrom w g c k) (u : Value) : TextsFrom (w.setCell ⟨g, k, none⟩ u) g c (k + 1) := by
  refine ⟨fun j h1 h2 => ?_, fun j => by rw [World.frozen?_setCell]; exact h.2 j⟩
  obtain ⟨x, hx, hc⟩ := h.1 j (by omega) h2
  exact ⟨x, hx, by rw [World.cell?_setCell_other _ _ _ _ (by first | (simp; done) | (simp; omega))]; exact hc⟩

theorem OwnT.texts {w : World} {B g c : Nat} {n : Nat} {l : List (List UInt8)} (h : OwnT w B (.slice (some ⟨g, 0, none⟩) n c) l) (hl : ∀ x ∈ l, x.length ≤ 900000) : TextsFrom w g c 0 := by
  rcases h with ⟨h, _⟩ | ⟨g', cap, hv, hB, hc, _, hg⟩
  · simp at h
  · injection hv with e1 e2 e3
    injection e1 with e1
    injection e1 with e4 e5 e6
    subst e4; subst e3
    refine ⟨fun j _ hj => ?_, fun j => by simp [World.frozen?, hg]⟩
    rw [World.cell?, hg]
    by_cases h2 : j < l.length
    · refine ⟨l[j], hl _ (List.getElem_mem h2), ?_⟩
      simp [List.getElem?_append_left, h2]
    · refine ⟨[], by simp, ?_⟩
      rw [List.length_map] at hc
      simp [List.getElem?_append_right, show l.length ≤ j by omega, show j - l.length < c - l.length by omega]
      rfl

/-! ### KeptTexts -/
end Go.Proofs.YtdikgjbpjdnodaaGreat

/-
  AppendSeq, Collect, Reverse; downward.
-/
namespace Go.Proofs.YtdikgjbpjdnodaaGreat
open Go.RowKit Go.Shelf
set_option linter.unusedVariables false
set_option maxRecDepth 100000
attribute [local go_sem] Oper.semAt_some

/-- downward's answer: the labels of the lower form, the last one first. -/
def down (n : List UInt8) : List (List UInt8) := (labs (low n)).reverse

end Go.Proofs.YtdikgjbpjdnodaaGreat

/-
  A text's reader: over, passes, digit, next, stands, fail.
-/
namespace Go.Proofs.YtdikgjbpjdnodaaGreat
open Go.RowKit Go.Shelf
set_option linter.unusedVariables false
set_option maxRecDepth 100000
set_option linter.unusedSimpArgs false

/-- Block r is a reader that stands at p in the text t. -/
def Rd (w : World) (r : Nat) (t : List UInt8) (p : Nat) : Prop :=
  w.cell? ⟨r, 0, none⟩ = some (.string (bs t)) ∧ w.cell? ⟨r, 1, none⟩ = some (.int .i64 p) ∧ ∀ j, w.frozen? ⟨r, j, none⟩ = false

theorem Rd.lt {w : World} {r : Nat} {t : List UInt8} {p : Nat} (h : Rd w r t p) : r < w.heap.size := World.block_lt_of_cell? w _ h.1
theorem Rd.block {w w' : World} {r : Nat} {t : List UInt8} {p : Nat} (h : Rd w r t p) (hk : w'.heap[r]? = w.heap[r]?) : Rd w' r t p :=
  ⟨(World.cell?_of_block (a := ⟨r, 0, none⟩) hk).trans h.1, (World.cell?_of_block (a := ⟨r, 1, none⟩) hk).trans h.2.1, fun j => (World.frozen?_of_block (a := ⟨r, j, none⟩) hk).trans (h.2.2 j)⟩
theorem Rd.move {w : World} {r : Nat} {t : List UInt8} {p : Nat} (h : Rd w r t p) (q : Int) (p' : Nat) (hq : q = p') : Rd (w.setCell ⟨r, 1, none⟩ (.int .i64 q)) r t p' := by
  subst hq
  refine ⟨?_, World.cell?_setCell_same _ _ _ h.2.1, fun j => by rw [World.frozen?_setCell]; exact h.2.2 j⟩
  rw [World.cell?_setCell_other _ _ _ _ (by simp)]
  exact h.1

theorem Drawn.aside {w w' : World} (h : Drawn w w') (G : Nat → Prop) : Aside G w w' := Aside.of_all (h.below _)

end Go.Proofs.YtdikgjbpjdnodaaGreat

/-
  A text's reader: label.
-/
namespace Go.Proofs.YtdikgjbpjdnodaaGreat
open Go.RowKit Go.Shelf
set_option linter.unusedVariables false
set_option maxRecDepth 100000
set_option linter.unusedSimpArgs false

theorem back_U {w : World} {B : Nat} {v : Value} {l : List UInt8} (h : OwnU w B v l) : (convert 28 9 v).run Tryz.prog w = .ok (.string (bs l)) w := by
  obtain ⟨a, c, rfl, hc⟩ := h.shape
  by_cases h0 : 0 < l.length
  · obtain ⟨g, rfl, _, hg⟩ := hc h0
    exact run_convert_bytes_back (P := Tryz.prog) w 28 9 5 ⟨g, 0, none⟩ c l Tryz.underlying28 Tryz.underlying5 Tryz.underlying9 (fun j hj => by
      rw [WideShapes.add_plain, Nat.zero_add, hg j hj, List.getD, List.getElem?_eq_getElem hj]; rfl)
  · have hl : l = [] := List.eq_nil_of_length_eq_zero (by omega)
    subst hl
    rcases a with _ | ad
    · rw [run_convert_bytes_nil w 28 5 Tryz.underlying28 Tryz.underlying5 _ c 9 Tryz.underlying9]; rfl
    · rw [run_convert_bytes_string w 28 9 5 _ _ c Tryz.underlying28 Tryz.underlying5 Tryz.underlying9, run_bytesToString w ad _ c [] (by simpa using run_loadCells_list (P := Tryz.prog) w ad [] (by simp))]
      rfl

end Go.Proofs.YtdikgjbpjdnodaaGreat

/-
  Same, Parent, the program's and the document's.
-/
namespace Go.Proofs.YtdikgjbpjdnodaaGreat
open Go.RowKit Go.Shelf
set_option linter.unusedVariables false
set_option maxRecDepth 100000

def same (a b : List UInt8) : Bool := decide (chk a = 0 ∧ chk b = 0 ∧ low a = low b)

theorem chk_ok {n : List UInt8} (h : chk n = 0) : left n = [0] ∧ n.length ≤ 255 := by
  unfold chk at h
  split at h
  · split at h
    · simp at h
    · exact ⟨‹_›, by omega⟩
  · simp at h

theorem chk_mk {n : List UInt8} (h : left n = [0]) (hl : n.length ≤ 255) : chk n = 0 := by
  unfold chk
  rw [if_pos h, if_neg (by omega)]

theorem chk_wire {n : List UInt8} (h : chk n = 0) : n = wire (labs n) ++ [0] := by
  have h1 := labs_left n
  rw [(chk_ok h).1] at h1
  exact h1.symm

/-- Labels that may be are read off their bytes. -/
theorem labs_wire (l : List (List UInt8)) (h : ∀ x ∈ l, 0 < x.length ∧ x.length ≤ 63) : labs (wire l ++ [0]) = l ∧ left (wire l ++ [0]) = [0] := by
  induction l with
  | nil => simp [wire, labs, left]
  | cons x r ih =>
    have hx := h x (by simp)
    obtain ⟨i1, i2⟩ := ih fun y hy => h y (List.mem_cons_of_mem _ hy)
    have h8 : (UInt8.ofNat x.length).toNat = x.length := by rw [UInt8.toNat_ofNat']; omega
    have e : wire (x :: r) ++ [0] = UInt8.ofNat x.length :: (x ++ (wire r ++ [0])) := by simp [wire]
    have hc : ¬ ((UInt8.ofNat x.length).toNat = 0 ∨ 63 < (UInt8.ofNat x.length).toNat ∨ (x ++ (wire r ++ [0])).length < (UInt8.ofNat x.length).toNat) := by
      rw [h8, List.length_append]; omega
    rw [e, labs, left, if_neg hc, if_neg hc, h8]
    rw [List.take_left, List.drop_left, i1, i2]
    exact ⟨rfl, rfl⟩

theorem chk_of_wire (l : List (List UInt8)) (h : ∀ x ∈ l, 0 < x.length ∧ x.length ≤ 63) (hl : (wire l).length ≤ 254) : chk (wire l ++ [0]) = 0 :=
  chk_mk (labs_wire l h).2 (by simp; omega)

end Go.Proofs.YtdikgjbpjdnodaaGreat

/-
  The document's Within and Compare.
-/
namespace Go.Proofs.YtdikgjbpjdnodaaGreat
open Go.RowKit Go.Shelf
set_option linter.unusedVariables false
set_option maxRecDepth 100000
set_option linter.unusedSimpArgs false

theorem chk_wire_len {n : List UInt8} (h : chk n = 0) : (wire (labs n)).length ≤ 254 := by
  have h1 := congrArg List.length (chk_wire h)
  have h2 := (chk_ok h).2
  simp at h1
  omega

end Go.Proofs.YtdikgjbpjdnodaaGreat

/-
  What the document's examples say: faulty, awake.
-/
namespace Go.Proofs.YtdikgjbpjdnodaaGreat
open Go.RowKit Go.Shelf
set_option linter.unusedVariables false
set_option maxRecDepth 100000
set_option linter.unusedSimpArgs false

/-- Labels that a name may have. -/
def Shorts (l : List (List UInt8)) : Prop := (∀ x ∈ l, 0 < x.length ∧ x.length ≤ 63) ∧ (wire l).length ≤ 254

theorem shorts_chk {l : List (List UInt8)} (h : Shorts l) : chk (wire l ++ [0]) = 0 := chk_of_wire l h.1 h.2
theorem shorts_labs {l : List (List UInt8)} (h : Shorts l) : labs (wire l ++ [0]) = l := (labs_wire l h.1).1
theorem shorts_of {n : List UInt8} (h : chk n = 0) : Shorts (labs n) ∧ n = wire (labs n) ++ [0] := ⟨⟨labs_short n, chk_wire_len h⟩, chk_wire h⟩
instance (l : List (List UInt8)) : Decidable (Shorts l) := by unfold Shorts; infer_instance

end Go.Proofs.YtdikgjbpjdnodaaGreat

/-
  The statement about the order of names.
-/
namespace Go.Proofs.YtdikgjbpjdnodaaGreat
open Go.RowKit Go.Shelf
set_option linter.unusedVariables false
set_option maxRecDepth 100000
set_option linter.unusedSimpArgs false

theorem tell_on {f : Nat} {args : Array Value} {v : Value} {w0 w : World} (h : Hid (Below w0.heap.size w0 w)) (hc : Calls Tryz.prog f args w (Tells w v)) : Calls Tryz.prog f args w fun e w' => e = .returned v ∧ Hid (Below w0.heap.size w0 w') :=
  hc.mono fun e w' hp => ⟨hp.1, bel_call h.out hp.2⟩

end Go.Proofs.YtdikgjbpjdnodaaGreat

/-
  A name in a message, read plainly: byte by byte, part by part.
-/
namespace Go.Proofs.YtdikgjbpjdnodaaGreat
open Go.RowKit
set_option linter.unusedVariables false
set_option maxRecDepth 100000

/-- Bytes as numbers. -/
def iz (b : List UInt8) : List Int := b.map fun x => (x.toNat : Int)

@[simp] theorem iz_len (b : List UInt8) : (iz b).length = b.length := by simp [iz]

theorem iz_byte (b : List UInt8) : ByteL (iz b) := fun n hn => by
  obtain ⟨x, _, rfl⟩ := List.mem_map.mp hn
  have : x.toNat < 256 := x.toNat_lt
  omega

theorem iz_get (b : List UInt8) (k : Nat) (h : k < b.length) : (iz b).getD k 0 = (b[k].toNat : Int) := by
  rw [List.getD, iz, List.getElem?_map, List.getElem?_eq_getElem h]; rfl

theorem iz_cut (b : List UInt8) (p k : Nat) : cutL (iz b) p k = iz ((b.drop p).take k) := by
  unfold cutL iz
  rw [← List.map_drop, ← List.map_take]

theorem iz_app (a b : List UInt8) : iz (a ++ b) = iz a ++ iz b := List.map_append

/-- What reading tells: the name, where it ends, the fault, its place. -/
abbrev Got := List UInt8 × Nat × Int × Nat

/-- What a pointer of these two bytes leads to. -/
def ptr (x y : UInt8) : Nat := 256 * (x.toNat - 192) + y.toNat

/-- From the place i on; a: where reading began; part: where this part began; next: where the first part ended, 0 till it is left; n: the labels so far. -/
def rd (b : List UInt8) (a part i next : Nat) (n : List UInt8) : Got :=
  if h : i < b.length then
    if b[i].toNat = 0 then (n ++ [0], if next = 0 then i + 1 else next, 0, 0)
    else if b[i].toNat < 64 then
      if b.length < i + (1 + b[i].toNat) then ([], 0, 4, b.length)
      else if 254 < n.length + (1 + b[i].toNat) then ([], 0, 3, a)
      else rd b a part (i + (1 + b[i].toNat)) next (n ++ (b.drop i).take (1 + b[i].toNat))
    else if b[i].toNat < 192 then ([], 0, 4, i)
    else if h1 : i + 1 < b.length then
      if part ≤ ptr b[i] b[i + 1] then ([], 0, 150, i)
      else rd b a (ptr b[i] b[i + 1]) (ptr b[i] b[i + 1]) (if next = 0 then i + 2 else next) n
    else ([], 0, 4, b.length)
  else ([], 0, 4, b.length)
termination_by (part, b.length - i)
decreasing_by
  · apply Prod.Lex.right; omega
  · apply Prod.Lex.left; omega

theorem rd_end {b : List UInt8} {a part i next : Nat} {n : List UInt8} (h : b.length ≤ i) : rd b a part i next n = ([], 0, 4, b.length) := by
  rw [rd, dif_neg (by omega)]

theorem rd_zero {b : List UInt8} {a part i next : Nat} {n : List UInt8} (h : i < b.length) (h0 : b[i].toNat = 0) : rd b a part i next n = (n ++ [0], if next = 0 then i + 1 else next, 0, 0) := by
  rw [rd, dif_pos h, if_pos h0]

theorem rd_short {b : List UInt8} {a part i next : Nat} {n : List UInt8} (h : i < b.length) (h0 : b[i].toNat ≠ 0) (h1 : b[i].toNat < 64) (h2 : b.length < i + (1 + b[i].toNat)) : rd b a part i next n = ([], 0, 4, b.length) := by
  rw [rd, dif_pos h, if_neg h0, if_pos h1, if_pos h2]

theorem rd_long {b : List UInt8} {a part i next : Nat} {n : List UInt8} (h : i < b.length) (h0 : b[i].toNat ≠ 0) (h1 : b[i].toNat < 64) (h2 : ¬ b.length < i + (1 + b[i].toNat)) (h3 : 254 < n.length + (1 + b[i].toNat)) : rd b a part i next n = ([], 0, 3, a) := by
  rw [rd, dif_pos h, if_neg h0, if_pos h1, if_neg h2, if_pos h3]

theorem rd_label {b : List UInt8} {a part i next : Nat} {n : List UInt8} (h : i < b.length) (h0 : b[i].toNat ≠ 0) (h1 : b[i].toNat < 64) (h2 : ¬ b.length < i + (1 + b[i].toNat)) (h3 : ¬ 254 < n.length + (1 + b[i].toNat)) :
    rd b a part i next n = rd b a part (i + (1 + b[i].toNat)) next (n ++ (b.drop i).take (1 + b[i].toNat)) := by
  conv => lhs; rw [rd, dif_pos h, if_neg h0, if_pos h1, if_neg h2, if_neg h3]

theorem rd_mid {b : List UInt8} {a part i next : Nat} {n : List UInt8} (h : i < b.length) (h1 : 64 ≤ b[i].toNat) (h2 : b[i].toNat < 192) : rd b a part i next n = ([], 0, 4, i) := by
  rw [rd, dif_pos h, if_neg (by omega), if_neg (by omega), if_pos h2]

theorem rd_half {b : List UInt8} {a part i next : Nat} {n : List UInt8} (h : i < b.length) (h1 : 192 ≤ b[i].toNat) (h2 : b.length ≤ i + 1) : rd b a part i next n = ([], 0, 4, b.length) := by
  rw [rd, dif_pos h, if_neg (by omega), if_neg (by omega), if_neg (by omega), dif_neg (by omega)]

theorem rd_back {b : List UInt8} {a part i next : Nat} {n : List UInt8} (h : i < b.length) (h1 : 192 ≤ b[i].toNat) (h2 : i + 1 < b.length) (h3 : part ≤ ptr b[i] b[i + 1]) : rd b a part i next n = ([], 0, 150, i) := by
  rw [rd, dif_pos h, if_neg (by omega), if_neg (by omega), if_neg (by omega), dif_pos h2, if_pos h3]

theorem rd_go {b : List UInt8} {a part i next : Nat} {n : List UInt8} (h : i < b.length) (h1 : 192 ≤ b[i].toNat) (h2 : i + 1 < b.length) (h3 : ¬ part ≤ ptr b[i] b[i + 1]) :
    rd b a part i next n = rd b a (ptr b[i] b[i + 1]) (ptr b[i] b[i + 1]) (if next = 0 then i + 2 else next) n := by
  conv => lhs; rw [rd, dif_pos h, if_neg (by omega), if_neg (by omega), if_neg (by omega), dif_pos h2, if_neg h3]

/-- What is told of any place. -/
def rda (b : List UInt8) (a : Int) : Got := if a < 0 ∨ (b.length : Int) < a then ([], 0, 5, 0) else rd b a.toNat a.toNat a.toNat 0 []

def gotV (r : Got) : Value := .tuple #[.string (bs r.1), .int .i64 r.2.1, .agg #[.int .i64 r.2.2.1, .int .i64 r.2.2.2]]

end Go.Proofs.YtdikgjbpjdnodaaGreat
