/-
  Rows of the call's own whose places behind the length hold the zero value: elements of one cell.
-/
import Derived.Test.YteegekpanadmkaaGreatV00
import Derived.Laws.AppendOwnNone
import Derived.Test.YteegekpanadmkaaGreatShelf
import Derived.Laws.IdiomStrings
import Derived.Lib.BufStepsIn
import Derived.Laws.Concat
import Derived.BigRegion
import Derived.ChangeAlike
import Derived.RegionTactic
import Derived.Deep.RegionHeld3
import Derived.Laws.CopyOwn
import Derived.Lib.LazyBuf
import Derived.Deep.QuietTactic
import Derived.BigQuiet
import Derived.Laws.Panics
import Derived.WalkLawsBesides
import Derived.Recover
import Derived.Defers
import Derived.LoopN
import Derived.Deep.LoopGhost
namespace Go.Proofs.YteegekpanadmkaaGreat
open Go.RowKit
set_option linter.unusedVariables false
set_option maxRecDepth 100000

def OwnZ (w : World) (B : Nat) (e : TypeId) (z : Value) (v : Value) (cs : List Value) : Prop :=
  (v = .slice none 0 0 ∧ cs = []) ∨ ∃ g cap, v = .slice (some ⟨g, 0, none⟩) cs.length cap ∧ B ≤ g ∧ cs.length ≤ cap ∧ cap ≤ maxLen ∧ w.heap[g]? = some (.cells (cs ++ List.replicate (cap - cs.length) z).toArray e (0, 0))

section
variable {w w' : World} {B B' : Nat} {e : TypeId} {z v : Value} {cs : List Value} {G : Nat → Prop}
theorem OwnZ.nil (w : World) (B : Nat) (e : TypeId) (z : Value) : OwnZ w B e z (.slice .none 0 0) [] := .inl ⟨rfl, rfl⟩
theorem OwnZ.lt (h : OwnZ w B e z v cs) : ∀ k, v.ownBlock = some k → B ≤ k ∧ k < w.heap.size := by
  intro k hk
  rcases h with ⟨rfl, _⟩ | ⟨g, cap, rfl, hB, _, _, hg⟩
  · simp [Value.ownBlock] at hk
  · simp [Value.ownBlock] at hk
    subst hk
    exact ⟨hB, (Array.getElem?_eq_some_iff.1 hg).1⟩
theorem OwnZ.aside (h : OwnZ w B e z v cs) (ha : Aside G w w') (hG : ∀ b, B ≤ b → ¬ G b) : OwnZ w' B e z v cs := by
  have hlt := h.lt
  rcases h with h2 | ⟨g, cap, hv, hg, h1, h2, hh⟩
  · exact .inl h2
  · exact .inr ⟨g, cap, hv, hg, h1, h2, (ha.block g (by subst hv; exact (hlt g rfl).2) (hG g hg)).trans hh⟩
theorem OwnZ.mono (h : OwnZ w B e z v cs) (hB : B' ≤ B) : OwnZ w B' e z v cs := by
  rcases h with h2 | ⟨g, cap, hv, hg, r⟩
  · exact .inl h2
  · exact .inr ⟨g, cap, hv, Nat.le_trans hB hg, r⟩
theorem OwnZ.below (h : OwnZ w B e z v cs) (hb : Below w.heap.size w w') : OwnZ w' B e z v cs := h.aside (G := fun _ => False) (Aside.of_all hb) fun _ _ h => h
theorem OwnZ.owns (h : OwnZ w B e z v cs) : w.ownsRow B e 1 v cs.length cs := by
  refine ⟨by simp, ?_⟩
  rcases h with ⟨rfl, rfl⟩ | ⟨g, cap, rfl, hg, h1, h2, hh⟩
  · exact .inl ⟨rfl, rfl⟩
  · exact .inr ⟨g, cap, _, rfl, hg, hh, h1, h2, by simp; omega, by simp⟩
end

theorem zeroCells_one (z : Value) (hz : z.cells = #[z]) (n : Nat) : Builtin.zeroCells z.cells n = (List.replicate n z).toArray := by
  rw [hz]
  apply Array.ext
  · simp [Builtin.zeroCells]
  · intro i h1 h2
    simp [Builtin.zeroCells, Nat.mod_one]

theorem run_append_Z {P : Program} {w : World} (B : Nat) (t ty e : TypeId) (i : TypeInfo) (z : Value) (bytes : Nat) (ht : P.underlying t = some (.slice e)) (hi : P.info? e = some i) (hz : i.zero = some z)
    (hsize : i.size = 1) (hby : i.bytes = bytes) (hzs : z.cells = #[z]) (v : Value) (cs : List Value) (hown : OwnZ w B e z v cs)
    (a : Addr) (m c : Nat) (news : List Value) (hl : news.length = m) (hnews : ∀ j u, news[j]? = some u → w.cell? (a.add j) = some u) (h1 : ∀ u ∈ news, u.oneCell' = true)
    (h63 : cs.length + m ≤ maxLen) (hbytes : (cs.length + m) * bytes ≤ 140737488355328) (hbase : B ≤ w.heap.size) :
    ∃ v' w', (Builtin.append_ #[t, t] ty #[v, .slice (some a) m c]).run P w = .ok v' w' ∧ OwnZ w' B e z v' (cs ++ news) ∧ w.grownBy w' v.ownBlock := by
  subst hby
  have hsmall : cs.length + m ≤ 9223372036854775807 := by simp only [maxLen] at h63; omega
  rcases hown with ⟨rfl, rfl⟩ | ⟨g, cap, rfl, hbg, hnc, hcm, hg⟩
  · by_cases hm : m = 0
    · subst hm
      have hn : news = [] := List.eq_nil_of_length_eq_zero hl
      subst hn
      refine ⟨.slice none 0 0, w, ?_, OwnZ.nil _ _ _ _, ⟨rfl, rfl, rfl, Nat.le_refl _, fun _ _ _ => rfl⟩⟩
      simp [Builtin.append_, run_underlying ht, sizeOf, typeInfo, hi, Builtin.lenOf, Builtin.firstCells, loadCells, loadCellsFrom]
    · have hr := run_append_nil (P := P) w t ty e i z ht hi hz a m c news (by rw [hsize]; omega) hnews (by omega) (by simp at hsmall; omega) (by simp at hbytes; omega)
      have hge := grownCap_ge w m 0 e
      refine ⟨_, _, hr, .inr ⟨w.heap.size, grownCap w m 0 e, by simp [hl], hbase, by simp [hl]; exact hge, grownCap_le_maxLen w m 0 e (by simpa using h63), ?_⟩, ⟨rfl, rfl, rfl, by simp, fun k hk _ => (by first | exact heap_alloc_old w.drew _ k hk | exact heap_alloc_old w.drew _ hk)⟩⟩
      refine (heap_alloc_new w.drew _).trans ?_
      rw [zeroCells_one z hzs]
      simp [hl]
  · by_cases hroom : cs.length + m ≤ cap
    · have hr := run_append_room (P := P) w t ty e i ht hi g cs.length cap _ hg a m c news (by rw [hsize]; omega) hnews h1 hroom (by rw [hsize]; simp; omega)
      refine ⟨_, _, hr, .inr ⟨g, cap, by simp [hl], hbg, by simp [hl]; exact hroom, hcm, ?_⟩, ⟨rfl, rfl, rfl, by simp, fun k _ hk => setRow_other w g k _ (fun e => hk (by simp [Value.ownBlock, e]))⟩⟩
      rw [setRow_heap w g _ _ e _ hg, hsize]
      have hlist : ((cs ++ List.replicate (cap - cs.length) z).toArray.toList.take (cs.length * 1) ++ news ++ (cs ++ List.replicate (cap - cs.length) z).toArray.toList.drop (cs.length * 1 + news.length)) = cs ++ news ++ List.replicate (cap - (cs ++ news).length) z := by
        have e1 : (cs ++ List.replicate (cap - cs.length) z).drop (cs.length + news.length) = List.replicate (cap - (cs ++ news).length) z := by
          rw [List.drop_append, List.drop_eq_nil_of_le (by omega), List.nil_append, List.drop_replicate, List.length_append]
          congr 1
          omega
        rw [Nat.mul_one, List.toList_toArray, List.take_left, e1]
      rw [hlist]
    · have holds : ∀ j u, cs[j]? = some u → w.cell? ((⟨g, 0, none⟩ : Addr).add j) = some u := fun j u hu => by
        have hj := (List.getElem?_eq_some_iff.1 hu).1
        rw [WideShapes.add_plain, Nat.zero_add, World.cell?, hg]
        simp [List.getElem?_append_left hj, hu]
      have hr := run_append_grow (P := P) w t ty e i z ht hi hz ⟨g, 0, none⟩ cs.length cap cs (by rw [hsize]; omega) holds a m c news (by rw [hsize]; omega) hnews (by omega) (by omega) (growslice_fits (by omega) hbytes)
      have hge := grownCap_ge w (cs.length + m) cap e
      refine ⟨_, _, hr, .inr ⟨w.heap.size, grownCap w (cs.length + m) cap e, by simp [hl], hbase, by simp [hl]; exact hge, grownCap_le_maxLen w _ cap e h63, ?_⟩, ⟨rfl, rfl, rfl, by simp, fun k hk _ => (by first | exact heap_alloc_old w.drew _ k hk | exact heap_alloc_old w.drew _ hk)⟩⟩
      refine (heap_alloc_new w.drew _).trans ?_
      rw [zeroCells_one z hzs]
      simp [hl]
end Go.Proofs.YteegekpanadmkaaGreat

/-
  Slices of texts as lists of lists of bytes; rows of the call's own; append; cuts.
-/
namespace Go.Proofs.YteegekpanadmkaaGreat
open Go.RowKit
set_option linter.unusedVariables false
set_option maxRecDepth 100000

def tv (x : List UInt8) : Value := .string (bs x)

def St (w : World) (lo hi : Nat) (v : Value) (l : List (List UInt8)) : Prop :=
  ∃ a c, v = .slice a l.length c ∧ l.length ≤ c ∧ (a = none → c = 0) ∧ (0 < l.length → ∃ b off, a = some ⟨b, off, none⟩ ∧ lo ≤ b ∧ b < hi ∧ ∀ j, j < l.length → w.cell? ⟨b, off + j, none⟩ = some (tv (l.getD j [])))

section
variable {w w' : World} {lo hi lo' hi' B : Nat} {v : Value} {l : List (List UInt8)}
end

theorem Tryz.infoT : (Tryz.prog.info? 9).map (fun i => (i.zero, i.size, i.bytes)) = some (some (.string ⟨#[]⟩), 1, 16) := by kernel_rfl

theorem texts_oneCell (l : List (List UInt8)) : ∀ u ∈ l.map tv, u.oneCell' = true := by
  intro u hu
  obtain ⟨x, _, rfl⟩ := List.mem_map.mp hu
  rfl

def OwnT (w : World) (B : Nat) (v : Value) (l : List (List UInt8)) : Prop := OwnZ w B 9 (.string ⟨#[]⟩) v (l.map tv)

theorem OwnT.nil (w : World) (B : Nat) : OwnT w B (.slice .none 0 0) [] := OwnZ.nil _ _ _ _
theorem OwnT.lt {w : World} {B : Nat} {v : Value} {l : List (List UInt8)} (h : OwnT w B v l) : ∀ k, v.ownBlock = some k → B ≤ k ∧ k < w.heap.size := OwnZ.lt h
theorem OwnT.mono {w : World} {B B' : Nat} {v : Value} {l : List (List UInt8)} (h : OwnT w B v l) (hB : B' ≤ B) : OwnT w B' v l := OwnZ.mono h hB
theorem OwnT.below {w w' : World} {B : Nat} {v : Value} {l : List (List UInt8)} (h : OwnT w B v l) (hb : Below w.heap.size w w') : OwnT w' B v l := OwnZ.below h hb
theorem OwnT.shape {w : World} {B : Nat} {v : Value} {l : List (List UInt8)} (h : OwnT w B v l) : ∃ a c, v = .slice a l.length c := by
  rcases h with ⟨rfl, h0⟩ | ⟨g, cap, rfl, _⟩
  · have : l = [] := by simpa using h0
    subst this
    exact ⟨.none, 0, rfl⟩
  · exact ⟨_, cap, by rw [List.length_map]⟩

theorem st_one (w : World) (x : List UInt8) : St (w.alloc (.cells #[tv x] 9)) w.heap.size (w.heap.size + 1) (.slice (some ⟨w.heap.size, 0, .none⟩) 1 1) [x] := by
  refine ⟨_, 1, rfl, by simp, fun h => by simp at h, fun _ => ⟨_, _, rfl, Nat.le_refl _, by omega, fun j hj => ?_⟩⟩
  obtain rfl : j = 0 := by simpa using hj
  simp [go_sem]

theorem run_appTs {w : World} (B lo hi : Nat) (v xv : Value) (l l' : List (List UInt8)) (hown : OwnT w B v l) (hx : St w lo hi xv l') (hb : l.length + l'.length ≤ 1000000) (hB : B ≤ w.heap.size) (h0 : xv = .slice .none 0 0 → l' = []) :
    ∃ a' c' w', (Builtin.append_ #[130, 130] 130 #[v, xv]).run Tryz.prog w = .ok (.slice a' (l.length + l'.length) c') w' ∧ OwnT w' B (.slice a' (l.length + l'.length) c') (l ++ l') ∧ w.grownBy w' v.ownBlock := by
  obtain ⟨i0, hi, hz0, hz1, hz2⟩ := info_parts Tryz.infoT
  obtain ⟨ad, c, rfl, hc, hn, hp⟩ := hx
  have fin : ∀ v' w', (Builtin.append_ #[130, 130] 130 #[v, .slice ad l'.length c]).run Tryz.prog w = .ok v' w' → OwnT w' B v' (l ++ l') → w.grownBy w' v.ownBlock → ∃ a' c' w', (Builtin.append_ #[130, 130] 130 #[v, .slice ad l'.length c]).run Tryz.prog w = .ok (.slice a' (l.length + l'.length) c') w' ∧ OwnT w' B (.slice a' (l.length + l'.length) c') (l ++ l') ∧ w.grownBy w' v.ownBlock := by
    intro v' w' h1 h2 h3
    obtain ⟨a', c', hv⟩ := h2.shape
    rw [List.length_append] at hv
    subst hv
    exact ⟨a', c', w', h1, h2, h3⟩
  rcases ad with _ | ad
  · have hc0 := hn rfl
    subst hc0
    have hl0 : l' = [] := List.eq_nil_of_length_eq_zero (by omega)
    subst hl0
    have hr := run_append_owned_none (P := Tryz.prog) (w := w) B 130 130 9 i0 1 Tryz.underlying130 hi v l.length (l.map tv) (by have := hown.owns; rwa [List.length_map] at this)
    exact fin v w hr (by rw [List.append_nil]; exact hown) ⟨rfl, rfl, rfl, Nat.le_refl _, fun _ _ _ => rfl⟩
  · obtain ⟨v', w', h1, h2, h3⟩ := run_append_Z (P := Tryz.prog) (w := w) B 130 130 9 i0 (.string ⟨#[]⟩) 16 Tryz.underlying130 hi hz0 hz1 hz2 rfl v (l.map tv) hown ad l'.length c (l'.map tv) (by simp)
      (fun j u hu => by
        rw [List.getElem?_map] at hu
        obtain ⟨n, hq, rfl⟩ := Option.map_eq_some_iff.mp hu
        have hj : j < l'.length := (List.getElem?_eq_some_iff.mp hq).1
        obtain ⟨b, off, he, _, _, hcell⟩ := hp (by omega)
        injection he with he
        subst he
        rw [WideShapes.add_plain, hcell j hj, List.getD, hq]; rfl) (texts_oneCell _) (by rw [List.length_map]; unfold maxLen; omega) (by rw [List.length_map]; omega) hB
    exact fin v' w' h1 (by unfold OwnT; rw [List.map_append]; exact h2) h3

theorem run_appT {w : World} (B : Nat) (v : Value) (l : List (List UInt8)) (y : List UInt8) (g : Nat) (hown : OwnT w B v l) (hy : w.cell? ⟨g, 0, .none⟩ = some (tv y)) (hb : l.length + 1 ≤ 1000000) (hB : B ≤ w.heap.size) :
    ∃ a' c' w', (Builtin.append_ #[130, 130] 130 #[v, .slice (some ⟨g, 0, .none⟩) 1 1]).run Tryz.prog w = .ok (.slice a' (l.length + 1) c') w' ∧ OwnT w' B (.slice a' (l.length + 1) c') (l ++ [y]) ∧ w.grownBy w' v.ownBlock :=
  run_appTs B g (g + 1) v (.slice (some ⟨g, 0, .none⟩) 1 1) l [y] hown ⟨_, 1, rfl, by simp, fun h => by simp at h, fun _ => ⟨g, 0, rfl, Nat.le_refl _, by omega, fun j hj => by
    obtain rfl : j = 0 := by simpa using hj
    simpa using hy⟩⟩ hb hB (fun h => by simp at h)

theorem wpList_append_run {w w' : World} {v v' xv : Value} {ops : Array Oper} {rest : List Oper} {o : Oper} {a : Act} {Q : Exit → Act → World → Prop} (s x : Operand) (t u : TypeId)
    (ho : o.op = .call { callee := .builtin .append, args := #[s, x], argTypes := #[t, u] }) (hgd : o.guard = .none) (hs : a.eval s = v) (hx : a.eval x = xv)
    (hrun : (Builtin.append_ #[t, u] o.type #[v, xv]).run Tryz.prog w = .ok v' w') (h : wpList Tryz.prog ops Q rest (a.put o.dst v') w') : wpList Tryz.prog ops Q (o :: rest) a w := by
  refine wpList_step fun K hK => ?_
  rw [if_pos (by simp [Region.wanted, hgd])]
  unfold Oper.wp
  simp [execOp, ho, resolve, invoke, builtin, hs, hx, hrun, Result.andThen]
  exact hK _ _ h

theorem wpList_appT {w : World} {ops : Array Oper} {rest : List Oper} {o : Oper} {a : Act} {Q : Exit → Act → World → Prop} (hgd : o.guard = .none) (s x : Operand)
    (ho : o.op = .call { callee := .builtin .append, args := #[s, x], argTypes := #[130, 130] }) (hty : o.type = 130)
    (B lo hi : Nat) (v xv : Value) (l l' : List (List UInt8)) (hs : a.eval s = v) (hx : a.eval x = xv) (hown : OwnT w B v l) (hsl : St w lo hi xv l') (hb : l.length + l'.length ≤ 1000000) (hB : B ≤ w.heap.size)
    (h : ∀ a' c' w', Hid (OwnT w' B (.slice a' (l.length + l'.length) c') (l ++ l')) → Hid (Below B w w') → wpList Tryz.prog ops Q rest (a.put o.dst (.slice a' (l.length + l'.length) c')) w') : wpList Tryz.prog ops Q (o :: rest) a w := by
  have h0 : xv = .slice .none 0 0 → l' = [] := fun e => by
    obtain ⟨ad, c, rfl, _⟩ := hsl
    injection e with e1 e2 e3
    exact List.eq_nil_of_length_eq_zero e2
  obtain ⟨a', c', w', h1, h2, h3⟩ := run_appTs B lo hi v xv l l' hown hsl hb hB h0
  refine wpList_append_run s x 130 130 ho hgd hs hx (by rw [hty]; exact h1) (h a' c' w' h2 ((Below.refl _ _).grown h3 hB fun k hk => (hown.lt k hk).1))

end Go.Proofs.YteegekpanadmkaaGreat

/-
  strings.Clone; Labels.
-/
namespace Go.Proofs.YteegekpanadmkaaGreat
open Go.RowKit Go.Shelf
set_option linter.unusedVariables false
set_option maxRecDepth 100000
attribute [local go_sem] Oper.semAt_some

theorem clone_any (s : ByteArray) (hs : s.size ≤ 1000000) (w : World) : Calls Tryz.prog 76 #[.string s] w (Tells w (.string s)) := by
  have H := Lib.hid (fun w => Tryz.stringslite_Clone s w (by omega))
  go_enter Tryz.func76, Tryz.ntmps76
  go_wp2_with (go_at_call 88; refine (H.out _).mono ?_; rintro e w1 ⟨rfl, hb⟩; have HB := Lib.hid hb; clear hb)
  go_ret
  exact ⟨rfl, HB.out⟩

def lbs (n : List UInt8) : List (List UInt8) := if chk n = 0 then labs n else []

def LabsPost (w : World) (n : List UInt8) (e : Ending) (w' : World) : Prop := ∃ v, e = .returned (.tuple #[v, .int .i64 (chk n)]) ∧ OwnT w' w.heap.size v (lbs n) ∧ Below w.heap.size w w'

end Go.Proofs.YteegekpanadmkaaGreat

/-
  Lower, the program's and the document's.
-/
namespace Go.Proofs.YteegekpanadmkaaGreat
open Go.RowKit
set_option linter.unusedVariables false
set_option maxRecDepth 100000

def lw (c : UInt8) : UInt8 := if 65 ≤ c.toNat ∧ c.toNat ≤ 90 then c + 32 else c
def low (l : List UInt8) : List UInt8 := l.map lw

end Go.Proofs.YteegekpanadmkaaGreat

/-
  The document's labels; its Check.
-/
namespace Go.Proofs.YteegekpanadmkaaGreat
open Go.RowKit
set_option linter.unusedVariables false
set_option maxRecDepth 100000

theorem rlabels_post {w wr : World} {n : List UInt8} {c : Int} (hc : chk n = c) (h0 : c ≠ 0) (hb : Below w.heap.size w wr) : LabsPost w n (.returned (.tuple #[.slice none 0 0, .int .i64 c])) wr := by
  subst hc
  exact ⟨_, rfl, by unfold lbs; rw [if_neg h0]; exact OwnT.nil _ _, hb⟩

set_option maxHeartbeats 2000000 in
theorem rlabels_any (n : List UInt8) (hn : n.length ≤ 1000000) (w : World) : Calls Tryz.prog 79 #[.string (bs n)] w (LabsPost w n) := by
  go_enter Tryz.func79, Tryz.ntmps79
  go_wp2
  go_loopw [4, 5] (fun v i wr => ∃ (p : Nat) (pre : List (List UInt8)), p ≤ n.length ∧ i = .int .i64 p ∧ Hid (OwnT wr w.heap.size v pre) ∧ Hid (labs n = pre ++ labs (n.drop p) ∧ left n = left (n.drop p) ∧ pre.length ≤ p) ∧ Hid (Below w.heap.size w wr)) (fun _ i _ => n.length - (intOf i).toNat)
  case atStart => exact ⟨0, [], Nat.zero_le _, rfl, OwnT.nil _ _, ⟨rfl, rfl, by simp⟩, Below.refl _ _⟩
  case round =>
    obtain ⟨p, pre, hp, rfl, HO, HL, HB⟩ := hrel
    by_cases hlt : p < n.length
    · have hix := ix_run n p hlt
      have hc8 : n[p].toNat < 256 := n[p].toNat_lt
      have hstep := labs_yes n p hlt
      have hno := labs_no n p hlt
      have hcut := cut_run n (p + 1) (p + 1 + n[p].toNat) (by omega)
      have hdrop : n.drop p = n[p] :: n.drop (p + 1) := List.drop_eq_getElem_cons hlt
      by_cases hz : n[p].toNat = 0
      · have hl : left n = n[p] :: n.drop (p + 1) := by rw [HL.out.2.1, (hno (.inl hz)).2, hdrop]
        have hz0 : n[p] = 0 := by
          apply UInt8.toNat_inj.mp
          rw [hz]; rfl
        rw [hz0] at hl
        have hla : labs n = pre := by rw [HL.out.1, (hno (.inl hz)).1, List.append_nil]
        rw [hz] at hix
        clear hstep hno hcut hdrop hz hz0 hc8
        by_cases he : p + 1 = n.length
        · have hl0 : left n = [0] := by rw [hl, List.drop_eq_nil_of_le (by omega)]
          have tz : ((p : Int) != n.length - 1) = false := by simp; omega
          by_cases hbig : 255 < n.length
          · have h3 : chk n = 3 := by unfold chk; rw [if_pos hl0, if_pos hbig]
            have HP := Lib.hid (rlabels_post h3 (by decide) HB.out)
            have t3 : decide ((255 : Int) < n.length) = true := by simp; omega
            clear hl hl0 h3 hla
            go_wp2
            go_ret2
            exact HP.out
          · have h0 : chk n = 0 := by unfold chk; rw [if_pos hl0, if_neg hbig]
            have HP := Lib.hid (show ∀ v, OwnT wr w.heap.size v pre → LabsPost w n (.returned (.tuple #[v, .int .i64 0])) wr from fun v hv => ⟨v, by rw [h0], by unfold lbs; rw [if_pos h0, hla]; exact hv, HB.out⟩)
            have t3 : decide ((255 : Int) < n.length) = false := by simp; omega
            clear hl hl0 h0 hla
            go_wp2
            go_ret2
            exact HP.out _ HO.out
        · have h4 : chk n = 4 := by
            unfold chk
            rw [if_neg]
            rw [hl]
            intro e
            injection e with e1 e2
            have := congrArg List.length e2
            simp at this
            omega
          have HP := Lib.hid (rlabels_post h4 (by decide) HB.out)
          have tz : ((p : Int) != n.length - 1) = true := by simp; omega
          clear hl h4 hla
          go_wp2
          go_ret2
          exact HP.out
      · by_cases hbad : 63 < n[p].toNat ∨ n.length < p + 1 + n[p].toNat
        · have hl : left n = n[p] :: n.drop (p + 1) := by rw [HL.out.2.1, (hno (.inr hbad)).2, hdrop]
          have h4 : chk n = 4 := by
            unfold chk
            rw [if_neg]
            rw [hl]
            intro e
            injection e with e1 e2
            rw [e1] at hz
            exact hz rfl
          have HP := Lib.hid (rlabels_post h4 (by decide) HB.out)
          obtain ⟨c, hcn⟩ : ∃ c, n[p].toNat = c := ⟨_, rfl⟩
          rw [hcn] at hix hc8 hz hbad
          clear hstep hno hcut hdrop hl h4 hcn
          have t1 : ((c : Int) == 0) = false := by simp; omega
          have hor : decide ((63 : Int) < c) = true ∨ (decide ((63 : Int) < c) = false ∧ decide ((n.length : Int) < p + 1 + c) = true) := by
            by_cases h : 63 < c
            · exact .inl (by simp; omega)
            · exact .inr ⟨by simp; omega, by simp; omega⟩
          clear hbad
          rcases hor with t2 | ⟨t2, t3⟩
          all_goals
            go_wp2
            go_ret2
            exact HP.out
        · have hcut := hcut (by omega)
          obtain ⟨h1, h2⟩ := hstep (by omega)
          obtain ⟨c, hcn⟩ : ∃ c, n[p].toNat = c := ⟨_, rfl⟩
          rw [hcn] at hix hc8 hz hbad hcut h1 h2
          rw [show p + 1 + c - (p + 1) = c by omega] at hcut
          push_cast at hcut
          obtain ⟨x, hx⟩ : ∃ x, (n.drop (p + 1)).take c = x := ⟨_, rfl⟩
          rw [hx] at hcut h1
          have t1 : ((c : Int) == 0) = false := by simp; omega
          have t2 : decide ((63 : Int) < c) = false := by simp; omega
          have t3 : decide ((n.length : Int) < p + 1 + c) = false := by simp; omega
          have HL2 := Lib.hid (show labs n = (pre ++ [x]) ++ labs (n.drop (p + 1 + c)) ∧ left n = left (n.drop (p + 1 + c)) ∧ (pre ++ [x]).length ≤ p + 1 + c from
            ⟨by rw [HL.out.1, h1]; simp, HL.out.2.1.trans h2, by have := HL.out.2.2; simp; omega⟩)
          have hpre := HL.out.2.2
          clear hx h1 h2 hdrop hstep hno hcn
          go_wp2_with (at_builtin; refine wpList_appT rfl (.tmp 28) (.tmp 37) rfl rfl w.heap.size ?l1 ?h1 _ _ pre [x] rfl rfl ?a1 ?b1 ?c1 ?d1 ?_)
          case l1 => exact wr.heap.size
          case h1 => exact wr.heap.size + 1
          case a1 => exact HO.out.below ((Below.refl _ _).alloc (Nat.le_refl _) _)
          case b1 => exact st_one wr x
          case c1 => simp; omega
          case d1 => have := HB.out.size; simp; omega
          intro a' c' w' HO2 hb2
          have HB2 := Lib.hid ((HB.out.alloc HB.out.size _).trans hb2)
          clear hb2
          go_wp2
          refine ⟨⟨p + 1 + c, pre ++ [x], by omega, by go_num, HO2, HL2, HB2⟩, ?_⟩
          simp [intOf]; omega
    · have h4 : chk n = 4 := by
        unfold chk
        rw [if_neg]
        rw [HL.out.2.1, (labs_end n p (by omega)).2]
        simp
      have HP := Lib.hid (rlabels_post h4 (by decide) HB.out)
      clear h4
      go_wp2
      go_ret2
      exact HP.out

set_option maxHeartbeats 400000 in
theorem rcheck_any (n : List UInt8) (hn : n.length ≤ 1000000) (w : World) : Calls Tryz.prog 63 #[.string (bs n)] w (Tells w (.int .i64 (chk n))) := by
  have HC := Lib.hid (rlabels_any n hn)
  go_enter Tryz.func63, Tryz.ntmps63
  go_wp2_with (go_at_call 79; refine (HC.out _).mono ?_; rintro e w1 ⟨v, rfl, ho, hb⟩; have HB := Lib.hid hb; clear hb ho)
  go_ret
  exact ⟨rfl, HB.out⟩
end Go.Proofs.YteegekpanadmkaaGreat

/-
  Rows of bytes of the call's own: append of bytes and of texts, in a round and elsewhere.
-/
namespace Go.Proofs.YteegekpanadmkaaGreat
open Go.RowKit
set_option linter.unusedVariables false
set_option maxRecDepth 100000

def ub (l : List UInt8) : List Value := l.map fun b => Value.int .u8 (b.toNat : Nat)

theorem ub_one (l : List UInt8) : ∀ u ∈ ub l, u.oneCell' = true := by
  intro u hu
  obtain ⟨x, _, rfl⟩ := List.mem_map.mp hu
  rfl

def OwnU (w : World) (B : Nat) (v : Value) (l : List UInt8) : Prop := w.ownsRowF B 5 1 v l.length (ub l)

theorem OwnU.nil (w : World) (B : Nat) : OwnU w B (.slice .none 0 0) [] := World.ownsRowF_nil _ _ _ _

theorem OwnU.aside {w w' : World} {B : Nat} {v : Value} {l : List UInt8} {G : Nat → Prop} (h : OwnU w B v l) (ha : Aside G w w') (hG : ∀ b, B ≤ b → ¬ G b) : OwnU w' B v l := by
  have hlt := World.ownsRowF.lt h
  refine ⟨h.1, ?_⟩
  rcases h.2 with h2 | ⟨g, cap, cur, fz, hv, hg, hh, r⟩
  · exact .inl h2
  · exact .inr ⟨g, cap, cur, fz, hv, hg, (ha.block g (by subst hv; exact (hlt g rfl).2) (hG g hg)).trans hh, r⟩

theorem OwnU.setCell {w : World} {B : Nat} {v : Value} {l : List UInt8} (h : OwnU w B v l) {p : Addr} (hp : p.block < B) (u : Value) : OwnU (w.setCell p u) B v l :=
  h.aside (G := fun b => b = p.block) (Aside.setCell _ _ rfl) fun b hb e => by omega

theorem OwnU.below {w w' : World} {B : Nat} {v : Value} {l : List UInt8} (h : OwnU w B v l) (hb : Below w.heap.size w w') : OwnU w' B v l :=
  h.aside (G := fun _ => False) (Aside.of_all hb) fun _ _ h => h

theorem OwnU.row {w : World} {B : Nat} {v : Value} {l : List UInt8} (h : OwnU w B v l) : ∀ k, v.ownBlock = some k → B ≤ k := fun k hk => (World.ownsRowF.lt h k hk).1

theorem OwnU.shape {w : World} {B : Nat} {v : Value} {l : List UInt8} (h : OwnU w B v l) : ∃ a c, v = .slice a l.length c ∧ (0 < l.length → ∃ g, a = some ⟨g, 0, .none⟩ ∧ B ≤ g ∧ ∀ j, j < l.length → w.cell? ⟨g, j, .none⟩ = some (.int .u8 ((l.getD j 0).toNat : Nat))) := by
  rcases h.2 with ⟨rfl, h0⟩ | ⟨g, cap, cur, fz, rfl, hg, hh, r⟩
  · exact ⟨.none, 0, by rw [h0], fun h => by omega⟩
  · refine ⟨_, _, rfl, fun _ => ⟨g, rfl, hg, fun j hj => ?_⟩⟩
    have := World.ownsRowF.cells h (g := g) rfl j (.int .u8 ((l.getD j 0).toNat : Nat)) (by unfold ub; rw [List.getElem?_map, List.getElem?_eq_getElem hj, List.getD, List.getElem?_eq_getElem hj]; rfl)
    rw [WideShapes.add_plain, Nat.zero_add] at this
    exact this

theorem run_appU {w : World} (B : Nat) (v : Value) (l l' : List UInt8) (g c : Nat) (hown : OwnU w B v l) (hx : ∀ j, j < l'.length → w.cell? ⟨g, j, none⟩ = some (.int .u8 ((l'.getD j 0).toNat : Nat))) (hb : l.length + l'.length ≤ 1000000) (hB : B ≤ w.heap.size) :
    ∃ a' c' w', (Builtin.append_ #[28, 28] 28 #[v, .slice (some ⟨g, 0, none⟩) l'.length c]).run Tryz.prog w = .ok (.slice a' (l.length + l'.length) c') w' ∧ OwnU w' B (.slice a' (l.length + l'.length) c') (l ++ l') ∧ w.grownBy w' v.ownBlock := by
  obtain ⟨i0, hi, hz0, hz1, hz2⟩ := info_parts Tryz.info5
  obtain ⟨v', w', h1, h2, h3, _⟩ := run_append_ownF (P := Tryz.prog) w B 28 28 5 i0 (.int .u8 0) 1 1 Tryz.underlying28 hi hz0 hz1 hz2 rfl (by decide) v l.length (ub l) hown ⟨g, 0, none⟩ l'.length c (ub l') (by simp [ub])
    (fun j u hu => by
      unfold ub at hu
      rw [List.getElem?_map] at hu
      obtain ⟨n, hq, rfl⟩ := Option.map_eq_some_iff.mp hu
      have hj : j < l'.length := (List.getElem?_eq_some_iff.mp hq).1
      rw [WideShapes.add_plain, Nat.zero_add, hx j hj, List.getD, hq]; rfl) (ub_one _) (by unfold maxLen; omega) (by omega) hB
  have h4 : OwnU w' B v' (l ++ l') := by
    show w'.ownsRowF B 5 1 v' (l ++ l').length (ub (l ++ l'))
    rw [List.length_append, ub, List.map_append]
    exact h2
  obtain ⟨a', c', hv, _⟩ := h4.shape
  rw [List.length_append] at hv
  subst hv
  exact ⟨a', c', w', h1, h4, h3⟩

theorem run_appS {w : World} (B : Nat) (v : Value) (l l' : List UInt8) (hown : OwnU w B v l) (hb : l.length + l'.length ≤ 1000000) (hB : B ≤ w.heap.size) :
    ∃ a' c' w', (Builtin.append_ #[28, 9] 28 #[v, .string (bs l')]).run Tryz.prog w = .ok (.slice a' (l.length + l'.length) c') w' ∧ OwnU w' B (.slice a' (l.length + l'.length) c') (l ++ l') ∧ w.grownBy w' v.ownBlock := by
  obtain ⟨i0, hi, hz0, hz1, hz2⟩ := info_parts Tryz.info5
  obtain ⟨v', w', h1, h2, h3, _⟩ := Lib.run_append_own_stringF (P := Tryz.prog) w B 28 9 28 5 i0 Tryz.underlying28 Tryz.underlying9 hi hz0 hz1 hz2 v l.length (ub l) hown (bs l') (by rw [bs_size]; unfold maxLen; omega) (by rw [bs_size]; omega) hB
  have h4 : OwnU w' B v' (l ++ l') := by
    show w'.ownsRowF B 5 1 v' (l ++ l').length (ub (l ++ l'))
    rw [List.length_append, ub, List.map_append]
    rw [bs_size] at h2
    exact h2
  obtain ⟨a', c', hv, _⟩ := h4.shape
  rw [List.length_append] at hv
  subst hv
  exact ⟨a', c', w', h1, h4, h3⟩

end Go.Proofs.YteegekpanadmkaaGreat

/-
  AppendSeq, Collect, Reverse; downward.
-/
namespace Go.Proofs.YteegekpanadmkaaGreat
open Go.RowKit Go.Shelf
set_option linter.unusedVariables false
set_option maxRecDepth 100000
attribute [local go_sem] Oper.semAt_some

def down (n : List UInt8) : List (List UInt8) := (labs (low n)).reverse

end Go.Proofs.YteegekpanadmkaaGreat

/-
  A text's reader: label.
-/
namespace Go.Proofs.YteegekpanadmkaaGreat
open Go.RowKit Go.Shelf
set_option linter.unusedVariables false
set_option maxRecDepth 100000
set_option linter.unusedSimpArgs false

theorem back_U {w : World} {B : Nat} {v : Value} {l : List UInt8} (h : OwnU w B v l) : (convert 28 9 v).run Tryz.prog w = .ok (.string (bs l)) w := by
  obtain ⟨a, c, rfl, hc⟩ := h.shape
  by_cases h0 : 0 < l.length
  · obtain ⟨g, rfl, _, hg⟩ := hc h0
    exact run_convert_bytes_back (P := Tryz.prog) w 28 9 5 ⟨g, 0, none⟩ c l Tryz.underlying28 Tryz.underlying5 Tryz.underlying9 (fun j hj => by
      rw [WideShapes.add_plain, Nat.zero_add, hg j hj, List.getD, List.getElem?_eq_getElem hj]; rfl)
  · have hl : l = [] := List.eq_nil_of_length_eq_zero (by omega)
    subst hl
    rcases a with _ | ad
    · rw [run_convert_bytes_nil w 28 5 Tryz.underlying28 Tryz.underlying5 _ c 9 Tryz.underlying9]; rfl
    · rw [run_convert_bytes_string w 28 9 5 _ _ c Tryz.underlying28 Tryz.underlying5 Tryz.underlying9, run_bytesToString w ad _ c [] (by simpa using run_loadCells_list (P := Tryz.prog) w ad [] (by simp))]
      rfl

end Go.Proofs.YteegekpanadmkaaGreat

/-
  Same, Parent, the program's and the document's.
-/
namespace Go.Proofs.YteegekpanadmkaaGreat
open Go.RowKit Go.Shelf
set_option linter.unusedVariables false
set_option maxRecDepth 100000

def same (a b : List UInt8) : Bool := decide (chk a = 0 ∧ chk b = 0 ∧ low a = low b)

theorem chk_ok {n : List UInt8} (h : chk n = 0) : left n = [0] ∧ n.length ≤ 255 := by
  unfold chk at h
  split at h
  · split at h
    · simp at h
    · exact ⟨‹_›, by omega⟩
  · simp at h

theorem chk_mk {n : List UInt8} (h : left n = [0]) (hl : n.length ≤ 255) : chk n = 0 := by
  unfold chk
  rw [if_pos h, if_neg (by omega)]

theorem chk_wire {n : List UInt8} (h : chk n = 0) : n = wire (labs n) ++ [0] := by
  have h1 := labs_left n
  rw [(chk_ok h).1] at h1
  exact h1.symm

theorem labs_wire (l : List (List UInt8)) (h : ∀ x ∈ l, 0 < x.length ∧ x.length ≤ 63) : labs (wire l ++ [0]) = l ∧ left (wire l ++ [0]) = [0] := by
  induction l with
  | nil => simp [wire, labs, left]
  | cons x r ih =>
    have hx := h x (by simp)
    obtain ⟨i1, i2⟩ := ih fun y hy => h y (List.mem_cons_of_mem _ hy)
    have h8 : (UInt8.ofNat x.length).toNat = x.length := by rw [UInt8.toNat_ofNat']; omega
    have e : wire (x :: r) ++ [0] = UInt8.ofNat x.length :: (x ++ (wire r ++ [0])) := by simp [wire]
    have hc : ¬ ((UInt8.ofNat x.length).toNat = 0 ∨ 63 < (UInt8.ofNat x.length).toNat ∨ (x ++ (wire r ++ [0])).length < (UInt8.ofNat x.length).toNat) := by
      rw [h8, List.length_append]; omega
    rw [e, labs, left, if_neg hc, if_neg hc, h8]
    rw [List.take_left, List.drop_left, i1, i2]
    exact ⟨rfl, rfl⟩

theorem chk_of_wire (l : List (List UInt8)) (h : ∀ x ∈ l, 0 < x.length ∧ x.length ≤ 63) (hl : (wire l).length ≤ 254) : chk (wire l ++ [0]) = 0 :=
  chk_mk (labs_wire l h).2 (by simp; omega)

end Go.Proofs.YteegekpanadmkaaGreat

/-
  The document's Within and Compare.
-/
namespace Go.Proofs.YteegekpanadmkaaGreat
open Go.RowKit Go.Shelf
set_option linter.unusedVariables false
set_option maxRecDepth 100000
set_option linter.unusedSimpArgs false

theorem chk_wire_len {n : List UInt8} (h : chk n = 0) : (wire (labs n)).length ≤ 254 := by
  have h1 := congrArg List.length (chk_wire h)
  have h2 := (chk_ok h).2
  simp at h1
  omega

end Go.Proofs.YteegekpanadmkaaGreat

/-
  What the document's examples say: faulty, awake.
-/
namespace Go.Proofs.YteegekpanadmkaaGreat
open Go.RowKit Go.Shelf
set_option linter.unusedVariables false
set_option maxRecDepth 100000
set_option linter.unusedSimpArgs false

def Shorts (l : List (List UInt8)) : Prop := (∀ x ∈ l, 0 < x.length ∧ x.length ≤ 63) ∧ (wire l).length ≤ 254

theorem shorts_chk {l : List (List UInt8)} (h : Shorts l) : chk (wire l ++ [0]) = 0 := chk_of_wire l h.1 h.2
theorem shorts_labs {l : List (List UInt8)} (h : Shorts l) : labs (wire l ++ [0]) = l := (labs_wire l h.1).1
theorem shorts_of {n : List UInt8} (h : chk n = 0) : Shorts (labs n) ∧ n = wire (labs n) ++ [0] := ⟨⟨labs_short n, chk_wire_len h⟩, chk_wire h⟩
instance (l : List (List UInt8)) : Decidable (Shorts l) := by unfold Shorts; infer_instance

end Go.Proofs.YteegekpanadmkaaGreat

/-
  The statement about the order of names.
-/
namespace Go.Proofs.YteegekpanadmkaaGreat
open Go.RowKit Go.Shelf
set_option linter.unusedVariables false
set_option maxRecDepth 100000
set_option linter.unusedSimpArgs false

theorem tell_on {f : Nat} {args : Array Value} {v : Value} {w0 w : World} (h : Hid (Below w0.heap.size w0 w)) (hc : Calls Tryz.prog f args w (Tells w v)) : Calls Tryz.prog f args w fun e w' => e = .returned v ∧ Hid (Below w0.heap.size w0 w') :=
  hc.mono fun e w' hp => ⟨hp.1, bel_call h.out hp.2⟩

end Go.Proofs.YteegekpanadmkaaGreat

/-
  A name in a message, read plainly: byte by byte, part by part.
-/
namespace Go.Proofs.YteegekpanadmkaaGreat
open Go.RowKit
set_option linter.unusedVariables false
set_option maxRecDepth 100000

def iz (b : List UInt8) : List Int := b.map fun x => (x.toNat : Int)

@[simp] theorem iz_len (b : List UInt8) : (iz b).length = b.length := by simp [iz]

theorem iz_byte (b : List UInt8) : ByteL (iz b) := fun n hn => by
  obtain ⟨x, _, rfl⟩ := List.mem_map.mp hn
  have : x.toNat < 256 := x.toNat_lt
  omega

theorem iz_get (b : List UInt8) (k : Nat) (h : k < b.length) : (iz b).getD k 0 = (b[k].toNat : Int) := by
  rw [List.getD, iz, List.getElem?_map, List.getElem?_eq_getElem h]; rfl

theorem iz_cut (b : List UInt8) (p k : Nat) : cutL (iz b) p k = iz ((b.drop p).take k) := by
  unfold cutL iz
  rw [← List.map_drop, ← List.map_take]

theorem iz_app (a b : List UInt8) : iz (a ++ b) = iz a ++ iz b := List.map_append

abbrev Got := List UInt8 × Nat × Int × Nat

def ptr (x y : UInt8) : Nat := 256 * (x.toNat - 192) + y.toNat

def rd (b : List UInt8) (a part i next : Nat) (n : List UInt8) : Got :=
  if h : i < b.length then
    if b[i].toNat = 0 then (n ++ [0], if next = 0 then i + 1 else next, 0, 0)
    else if b[i].toNat < 64 then
      if b.length < i + (1 + b[i].toNat) then ([], 0, 4, b.length)
      else if 254 < n.length + (1 + b[i].toNat) then ([], 0, 3, a)
      else rd b a part (i + (1 + b[i].toNat)) next (n ++ (b.drop i).take (1 + b[i].toNat))
    else if b[i].toNat < 192 then ([], 0, 4, i)
    else if h1 : i + 1 < b.length then
      if part ≤ ptr b[i] b[i + 1] then ([], 0, 150, i)
      else rd b a (ptr b[i] b[i + 1]) (ptr b[i] b[i + 1]) (if next = 0 then i + 2 else next) n
    else ([], 0, 4, b.length)
  else ([], 0, 4, b.length)
termination_by (part, b.length - i)
decreasing_by
  · apply Prod.Lex.right; omega
  · apply Prod.Lex.left; omega

theorem rd_end {b : List UInt8} {a part i next : Nat} {n : List UInt8} (h : b.length ≤ i) : rd b a part i next n = ([], 0, 4, b.length) := by
  rw [rd, dif_neg (by omega)]

theorem rd_zero {b : List UInt8} {a part i next : Nat} {n : List UInt8} (h : i < b.length) (h0 : b[i].toNat = 0) : rd b a part i next n = (n ++ [0], if next = 0 then i + 1 else next, 0, 0) := by
  rw [rd, dif_pos h, if_pos h0]

theorem rd_short {b : List UInt8} {a part i next : Nat} {n : List UInt8} (h : i < b.length) (h0 : b[i].toNat ≠ 0) (h1 : b[i].toNat < 64) (h2 : b.length < i + (1 + b[i].toNat)) : rd b a part i next n = ([], 0, 4, b.length) := by
  rw [rd, dif_pos h, if_neg h0, if_pos h1, if_pos h2]

theorem rd_long {b : List UInt8} {a part i next : Nat} {n : List UInt8} (h : i < b.length) (h0 : b[i].toNat ≠ 0) (h1 : b[i].toNat < 64) (h2 : ¬ b.length < i + (1 + b[i].toNat)) (h3 : 254 < n.length + (1 + b[i].toNat)) : rd b a part i next n = ([], 0, 3, a) := by
  rw [rd, dif_pos h, if_neg h0, if_pos h1, if_neg h2, if_pos h3]

theorem rd_label {b : List UInt8} {a part i next : Nat} {n : List UInt8} (h : i < b.length) (h0 : b[i].toNat ≠ 0) (h1 : b[i].toNat < 64) (h2 : ¬ b.length < i + (1 + b[i].toNat)) (h3 : ¬ 254 < n.length + (1 + b[i].toNat)) :
    rd b a part i next n = rd b a part (i + (1 + b[i].toNat)) next (n ++ (b.drop i).take (1 + b[i].toNat)) := by
  conv => lhs; rw [rd, dif_pos h, if_neg h0, if_pos h1, if_neg h2, if_neg h3]

theorem rd_mid {b : List UInt8} {a part i next : Nat} {n : List UInt8} (h : i < b.length) (h1 : 64 ≤ b[i].toNat) (h2 : b[i].toNat < 192) : rd b a part i next n = ([], 0, 4, i) := by
  rw [rd, dif_pos h, if_neg (by omega), if_neg (by omega), if_pos h2]

theorem rd_half {b : List UInt8} {a part i next : Nat} {n : List UInt8} (h : i < b.length) (h1 : 192 ≤ b[i].toNat) (h2 : b.length ≤ i + 1) : rd b a part i next n = ([], 0, 4, b.length) := by
  rw [rd, dif_pos h, if_neg (by omega), if_neg (by omega), if_neg (by omega), dif_neg (by omega)]

theorem rd_back {b : List UInt8} {a part i next : Nat} {n : List UInt8} (h : i < b.length) (h1 : 192 ≤ b[i].toNat) (h2 : i + 1 < b.length) (h3 : part ≤ ptr b[i] b[i + 1]) : rd b a part i next n = ([], 0, 150, i) := by
  rw [rd, dif_pos h, if_neg (by omega), if_neg (by omega), if_neg (by omega), dif_pos h2, if_pos h3]

theorem rd_go {b : List UInt8} {a part i next : Nat} {n : List UInt8} (h : i < b.length) (h1 : 192 ≤ b[i].toNat) (h2 : i + 1 < b.length) (h3 : ¬ part ≤ ptr b[i] b[i + 1]) :
    rd b a part i next n = rd b a (ptr b[i] b[i + 1]) (ptr b[i] b[i + 1]) (if next = 0 then i + 2 else next) n := by
  conv => lhs; rw [rd, dif_pos h, if_neg (by omega), if_neg (by omega), if_neg (by omega), dif_pos h2, if_neg h3]

def rda (b : List UInt8) (a : Int) : Got := if a < 0 ∨ (b.length : Int) < a then ([], 0, 5, 0) else rd b a.toNat a.toNat a.toNat 0 []

def gotV (r : Got) : Value := .tuple #[.string (bs r.1), .int .i64 r.2.1, .agg #[.int .i64 r.2.2.1, .int .i64 r.2.2.2]]

end Go.Proofs.YteegekpanadmkaaGreat

/-
  cmp.Or of two numbers; the byte at a place; where a pointer leads.
-/
namespace Go.Proofs.YteegekpanadmkaaGreat
open Go.RowKit Go.Shelf
set_option linter.unusedVariables false
set_option maxRecDepth 100000

set_option maxHeartbeats 400000 in
theorem or_any (g : Nat) (x y : Int) (w : World) (c0 : w.cell? ⟨g, 0, none⟩ = some (.int .i64 x)) (c1 : w.cell? ⟨g, 1, none⟩ = some (.int .i64 y)) :
    Calls Tryz.prog 145 #[.slice (some ⟨g, 0, none⟩) 2 2] w fun e w' => e = .returned (.int .i64 (if x = 0 then y else x)) ∧ w = w' := by
  by_cases h : x = 0
  · subst h
    by_cases hy : y = 0
    · subst hy
      go_enter Tryz.func145, Tryz.ntmps145
      go_wp2
      refine wp_loop_rounds 3 ?_
      iterate 3 (rw [rounds_succ]; go_wp2)
      go_ret
      exact ⟨rfl, rfl⟩
    · have t : (y != 0) = true := by simpa using hy
      go_enter Tryz.func145, Tryz.ntmps145
      go_wp2
      refine wp_loop_rounds 3 ?_
      iterate 2 (rw [rounds_succ]; go_wp2)
      go_ret
      exact ⟨rfl, rfl⟩
  · have t : (x != 0) = true := by simpa using h
    go_enter Tryz.func145, Tryz.ntmps145
    go_wp2
    refine wp_loop_rounds 3 ?_
    iterate 1 (rw [rounds_succ]; go_wp2)
    go_ret
    exact ⟨rfl, rfl⟩

theorem Sl.spot {w : World} {lo hi : Nat} {v : Value} {l : List Int} (h : Sl w lo hi v l) (p : Nat) (hp : p < l.length) :
    ∃ g off c, v = .slice (some ⟨g, off, none⟩) l.length c ∧ g < hi ∧ w.cell? ⟨g, off + p, none⟩ = some (.int .u8 (l.getD p 0)) := by
  obtain ⟨a, c, rfl, _, _, hx⟩ := h
  obtain ⟨g, off, rfl, _, h2, h3⟩ := hx (by omega)
  exact ⟨g, off, c, rfl, h2, h3 p hp⟩

def lenV (b : List UInt8) (p : Nat) : Value :=
  if h : p < b.length then (if 64 ≤ b[p].toNat ∧ b[p].toNat < 192 then .tuple #[.int .i64 0, .agg #[.int .i64 4, .int .i64 p]] else .tuple #[.int .i64 b[p].toNat, .agg #[.int .i64 0, .int .i64 0]])
  else .tuple #[.int .i64 0, .agg #[.int .i64 4, .int .i64 p]]

set_option maxHeartbeats 400000 in
theorem length_any {w : World} {lo hi : Nat} {v : Value} {b : List UInt8} (h : Sl w lo hi v (iz b)) (p : Nat) (hp : p ≤ b.length) (hl : b.length ≤ 1000000) :
    Calls Tryz.prog 143 #[v, .int .i64 p] w (Tells w (lenV b p)) := by
  have HB := Lib.hid ((Below.refl w.heap.size w).alloc (Nat.le_refl _) (.cells #[.int .i64 0, .int .i64 0] 42))
  by_cases hlt : p < b.length
  · obtain ⟨g, off, c, rfl, _, hc⟩ := h.spot p (by simpa using hlt)
    have hg : g < w.heap.size := World.block_lt_of_cell? w _ hc
    rw [iz_get b p hlt] at hc
    rw [iz_len]
    have hv : lenV b p = if 64 ≤ b[p].toNat ∧ b[p].toNat < 192 then .tuple #[.int .i64 0, .agg #[.int .i64 4, .int .i64 p]] else .tuple #[.int .i64 b[p].toNat, .agg #[.int .i64 0, .int .i64 0]] := by
      unfold lenV; rw [dif_pos hlt]
    have hx : b[p].toNat < 256 := b[p].toNat_lt
    obtain ⟨x, hxe⟩ : ∃ x, b[p].toNat = x := ⟨_, rfl⟩
    rw [hxe] at hc hv hx
    clear hxe
    have t0 : ((p : Int) == b.length) = false := by simp; omega
    by_cases h1 : 64 ≤ x
    · have t1 : decide ((63 : Int) < x) = true := by simp; omega
      by_cases h2 : x < 192
      · have t2 : decide ((x : Int) < 192) = true := by simp; omega
        rw [if_pos ⟨h1, h2⟩] at hv
        rw [hv]
        go_enter Tryz.func143, Tryz.ntmps143
        go_wp2
        exact bodyPost_ret  (by simp [results, Tryz.results143, go_sem]) rfl ⟨rfl, (Below.refl _ _).alloc (Nat.le_refl _) _⟩
      · have t2 : decide ((x : Int) < 192) = false := by simp; omega
        rw [if_neg (fun h => h2 h.2)] at hv
        rw [hv]
        go_enter Tryz.func143, Tryz.ntmps143
        go_wp2
        exact bodyPost_ret  (by simp [results, Tryz.results143, go_sem]) rfl ⟨rfl, (Below.refl _ _).alloc (Nat.le_refl _) _⟩
    · have t1 : decide ((63 : Int) < x) = false := by simp; omega
      rw [if_neg (fun h => h1 h.1)] at hv
      rw [hv]
      go_enter Tryz.func143, Tryz.ntmps143
      go_wp2
      exact bodyPost_ret  (by simp [results, Tryz.results143, go_sem]) rfl ⟨rfl, (Below.refl _ _).alloc (Nat.le_refl _) _⟩
  · have hv : lenV b p = .tuple #[.int .i64 0, .agg #[.int .i64 4, .int .i64 p]] := by unfold lenV; rw [dif_neg hlt]
    rw [hv]
    obtain ⟨a, c, rfl, _⟩ := h
    rw [iz_len]
    have t0 : ((p : Int) == b.length) = true := by simp; omega
    go_enter Tryz.func143, Tryz.ntmps143
    go_wp2
    exact bodyPost_ret  (by simp [results, Tryz.results143, go_sem]) rfl ⟨rfl, (Below.refl _ _).alloc (Nat.le_refl _) _⟩

def folV (b : List UInt8) (p part : Nat) : Value :=
  if h : p + 1 < b.length then (if part ≤ ptr b[p] b[p + 1] then .tuple #[.int .i64 0, .int .i64 0, .agg #[.int .i64 150, .int .i64 p]] else .tuple #[.int .i64 (ptr b[p] b[p + 1] : Nat), .int .i64 (p + 2 : Nat), .agg #[.int .i64 0, .int .i64 0]])
  else .tuple #[.int .i64 0, .int .i64 0, .agg #[.int .i64 4, .int .i64 b.length]]

theorem res_below {w w1 : World} {o : Obj} (hb : Below (w.heap.size + 1) (w.alloc o) w1) (x y : Value) (o' : Obj) :
    Below w.heap.size w (((w1.setCell ⟨w.heap.size, 0, none⟩ x).setCell ⟨w.heap.size, 1, none⟩ y).alloc o') := by
  have h0 := ((Below.refl w.heap.size w).alloc (Nat.le_refl _) o).trans (hb.mono (Nat.le_succ _))
  have h1 := (h0.setCell (p := ⟨w.heap.size, 0, none⟩) (Nat.le_refl _) x).setCell (p := ⟨w.heap.size, 1, none⟩) (Nat.le_refl _) y
  exact h1.alloc h1.size o'

set_option maxHeartbeats 400000 in
theorem follow_any {w : World} {lo hi : Nat} {v : Value} {b : List UInt8} (h : Sl w lo hi v (iz b)) (hhi : hi ≤ w.heap.size) (p part : Nat) (hp : p < b.length) (hx : 192 ≤ b[p].toNat) (hpt : part ≤ b.length) (hl : b.length ≤ 1000000) :
    Calls Tryz.prog 144 #[v, .int .i64 p, .int .i64 part] w (Tells w (folV b p part)) := by
  have HB0 := Lib.hid ((Below.refl w.heap.size w).alloc (Nat.le_refl _) (.cells #[.int .i64 0, .int .i64 0] 42))
  have hs := h.below HB0.out hhi
  have HG := get16_any hs (iz_byte b) (by simpa using hl) (by simp; omega) p
  rw [iz_len] at HG
  by_cases h1 : p + 1 < b.length
  · have e1 : getF 2 b.length p (nAt2 (iz b) (p : Int).toNat) = (b[p].toNat * 256 + b[p + 1].toNat : Nat) := by
      unfold getF nAt2 num2
      rw [if_pos (by omega), Int.toNat_natCast, iz_get b p hp, iz_get b (p + 1) h1]
      omega
    have e2 : getF 2 b.length p (p + 2) = (p + 2 : Nat) := by unfold getF; rw [if_pos (by omega)]; push_cast; rfl
    have e3 : getE 2 b.length p = 0 := by unfold getE; rw [if_neg (by omega), if_neg (by omega)]
    have e4 : getA 2 b.length p = 0 := by unfold getA; rw [if_neg (by omega)]
    rw [e1, e2, e3, e4] at HG
    have hy : b[p + 1].toNat < 256 := b[p + 1].toNat_lt
    have hx2 : b[p].toNat < 256 := b[p].toNat_lt
    have hptr : ptr b[p] b[p + 1] = (b[p].toNat * 256 + b[p + 1].toNat) % 16384 := by unfold ptr; omega
    have hv : folV b p part = if part ≤ ptr b[p] b[p + 1] then .tuple #[.int .i64 0, .int .i64 0, .agg #[.int .i64 150, .int .i64 p]] else .tuple #[.int .i64 (ptr b[p] b[p + 1] : Nat), .int .i64 (p + 2 : Nat), .agg #[.int .i64 0, .int .i64 0]] := by
      unfold folV; rw [dif_pos h1]
    rw [hptr] at hv
    obtain ⟨N, hN⟩ : ∃ N, b[p].toNat * 256 + b[p + 1].toNat = N := ⟨_, rfl⟩
    rw [hN] at HG hv
    have hNb : N < 65536 := by omega
    have hrem : ((N : Int).tmod 16384) = ((N % 16384 : Nat) : Int) := by rw [Int.tmod_eq_emod_of_nonneg (by omega)]; omega
    obtain ⟨T, hT⟩ : ∃ T, N % 16384 = T := ⟨_, rfl⟩
    rw [hT] at hrem hv
    obtain ⟨e, he⟩ : ∃ e, p + 2 = e := ⟨_, rfl⟩
    rw [he] at HG hv
    have HH := Lib.hid HG
    clear hN hptr hx2 hy e1 e2 e3 e4 HG he hs h
    by_cases h2 : part ≤ T
    · have t2 : decide ((part : Int) ≤ T) = true := by simp; omega
      rw [if_pos h2] at hv
      rw [hv]
      go_enter Tryz.func144, Tryz.ntmps144
      go_wp2_with fail
      refine HH.out.mono ?_
      rintro e w1 ⟨rfl, hb⟩
      simp only [World.size_alloc] at hb
      have HB := Lib.hid hb
      have hlt := below_lt hb
      obtain ⟨k0, k1, k3⟩ := res_cells hb
      clear hb
      go_wp2_with fail
      obtain ⟨m0, m1⟩ := res_set (.int .i64 150) (.int .i64 p) k0 k1
      exact bodyPost_ret (by simp [results, Tryz.results144, go_sem, m0, m1, hlt]) rfl ⟨rfl, res_below HB.out _ _ _⟩
    · have t2 : decide ((part : Int) ≤ T) = false := by simp; omega
      rw [if_neg h2] at hv
      rw [hv]
      go_enter Tryz.func144, Tryz.ntmps144
      go_wp2_with fail
      refine HH.out.mono ?_
      rintro e w1 ⟨rfl, hb⟩
      simp only [World.size_alloc] at hb
      have HB := Lib.hid hb
      have hlt := below_lt hb
      obtain ⟨k0, k1, k3⟩ := res_cells hb
      clear hb
      go_wp2_with fail
      obtain ⟨m0, m1⟩ := res_set (.int .i64 0) (.int .i64 0) k0 k1
      exact bodyPost_ret (by simp [results, Tryz.results144, go_sem, m0, m1, hlt]) rfl ⟨rfl, res_below HB.out _ _ _⟩
  · have e1 : ∀ x, getF 2 b.length p x = 0 := fun x => by unfold getF; rw [if_neg (by omega)]
    have e3 : getE 2 b.length p = 4 := by unfold getE; rw [if_neg (by omega), if_pos (by omega)]
    have e4 : getA 2 b.length p = b.length := by unfold getA; rw [if_pos (by omega)]
    have hv : folV b p part = .tuple #[.int .i64 0, .int .i64 0, .agg #[.int .i64 4, .int .i64 b.length]] := by unfold folV; rw [dif_neg h1]
    rw [e1, e1, e3, e4] at HG
    rw [hv]
    have HH := Lib.hid HG
    clear e1 e3 e4 HG hs h
    go_enter Tryz.func144, Tryz.ntmps144
    go_wp2_with fail
    refine HH.out.mono ?_
    rintro e w1 ⟨rfl, hb⟩
    simp only [World.size_alloc] at hb
    have HB := Lib.hid hb
    have hlt := below_lt hb
    obtain ⟨k0, k1, k3⟩ := res_cells hb
    clear hb
    go_wp2_with fail
    go_region
    go_wp2_with fail
    obtain ⟨m0, m1⟩ := res_set (.int .i64 4) (.int .i64 b.length) k0 k1
    exact bodyPost_ret (by simp [results, Tryz.results144, go_sem, m0, m1, hlt]) rfl ⟨rfl, below_drewN (res_below HB.out _ _ _) 1⟩

end Go.Proofs.YteegekpanadmkaaGreat

/-
  Read.
-/
namespace Go.Proofs.YteegekpanadmkaaGreat
open Go.RowKit Go.Shelf
set_option linter.unusedVariables false
set_option maxRecDepth 100000

structure Rdy (w w1 : World) : Prop where
  below : Below (w.heap.size + 1) (w.alloc (.cells #[.int .i64 0, .int .i64 0] 42)) w1

theorem Rdy.lt {w w1 : World} (h : Rdy w w1) : w.heap.size < w1.heap.size := below_lt h.below
theorem Rdy.call {w w1 w2 : World} (h : Rdy w w1) (hb : Below w1.heap.size w1 w2) : Rdy w w2 := ⟨h.below.trans (hb.mono h.lt)⟩
theorem Rdy.alloc {w w1 : World} (h : Rdy w w1) (o : Obj) : Rdy w (w1.alloc o) := ⟨h.below.alloc h.lt o⟩
theorem Rdy.set {w w1 : World} (h : Rdy w w1) {p : Addr} (hp : w.heap.size < p.block) (x : Value) : Rdy w (w1.setCell p x) := ⟨h.below.setCell hp x⟩
theorem Rdy.cells {w w1 : World} (h : Rdy w w1) : w1.cell? ⟨w.heap.size, 0, none⟩ = some (.int .i64 0) ∧ w1.cell? ⟨w.heap.size, 1, none⟩ = some (.int .i64 0) ∧ ∀ j, w1.frozen? ⟨w.heap.size, j, none⟩ = false := res_cells h.below
theorem Rdy.fin {w w1 : World} (h : Rdy w w1) (x y : Value) (o : Obj) : Below w.heap.size w (((w1.setCell ⟨w.heap.size, 0, none⟩ x).setCell ⟨w.heap.size, 1, none⟩ y).alloc o) := by
  have := ((((Below.refl w.heap.size w).alloc (Nat.le_refl _) _).trans (h.below.mono (Nat.le_succ _))).setCell (p := ⟨w.heap.size, 0, none⟩) (Nat.le_refl _) x).setCell (p := ⟨w.heap.size, 1, none⟩) (Nat.le_refl _) y
  exact this.alloc this.size o
theorem Rdy.end_ {w w1 : World} (h : Rdy w w1) (x y : Value) : Below w.heap.size w ((w1.setCell ⟨w.heap.size, 0, none⟩ x).setCell ⟨w.heap.size, 1, none⟩ y) :=
  ((((Below.refl w.heap.size w).alloc (Nat.le_refl _) _).trans (h.below.mono (Nat.le_succ _))).setCell (Nat.le_refl _) x).setCell (Nat.le_refl _) y

theorem Rdy.old {w w1 : World} (h : Rdy w w1) : Below w.heap.size w w1 := ((Below.refl w.heap.size w).alloc (Nat.le_refl _) _).trans (h.below.mono (Nat.le_succ _))
theorem Rdy.on {w w1 w2 : World} (h : Rdy w w1) (hb : Below (w.heap.size + 1) w1 w2) : Rdy w w2 := ⟨h.below.trans hb⟩

theorem app_own {w : World} {B g : Nat} {v vl : Value} {n m : List UInt8} (HO : OwnU w B v n) (hl : Own w g vl (iz m)) (hm : 0 < m.length) (hb : n.length + m.length ≤ 1000000) (hB : B ≤ w.heap.size) :
    ∃ a' c' w', (Builtin.append_ #[28, 28] 28 #[v, vl]).run Tryz.prog w = .ok (.slice a' (n.length + m.length) c') w' ∧ OwnU w' B (.slice a' (n.length + m.length) c') (n ++ m) ∧ Below B w w' := by
  rcases hl with ⟨_, h⟩ | ⟨rfl, hh⟩
  · have := congrArg List.length h
    rw [iz_len, List.length_nil] at this
    omega
  · rw [iz_len]
    obtain ⟨a', c', w', h1, h2, h3⟩ := run_appU (w := w) B v n m g m.length HO (fun j hj => by
      have : j < (iz m).length := by simpa using hj
      rw [List.getD, List.getElem?_eq_getElem hj]
      simp only [World.cell?, hh]
      simp [iz, hj]) hb hB
    exact ⟨a', c', w', h1, h2, (Below.refl _ _).grown h3 hB HO.row⟩

theorem bytes_cut {w1 : World} {lo hi : Nat} {v : Value} {b : List UInt8} (h : Sl w1 lo hi v (iz b)) (hl : b.length ≤ 1000000) (p k : Nat) (hk : p + k ≤ b.length) :
    Calls Tryz.prog 146 #[v, .int .i64 p, .int .i64 k] w1 (BytesPost w1 (iz ((b.drop p).take k)) (p + k : Nat) 0 0) := by
  have := bytes_at (iz b) p k (by simpa using hl) (by simpa using hk) w1 h
  rw [iz_cut] at this
  push_cast
  exact this

theorem bytes_short {w1 : World} {lo hi : Nat} {v : Value} {b : List UInt8} (h : Sl w1 lo hi v (iz b)) (hl : b.length ≤ 1000000) (p k : Nat) (hp : p ≤ b.length) (hk : b.length < p + k) (hk2 : k ≤ 1000) :
    Calls Tryz.prog 146 #[v, .int .i64 p, .int .i64 k] w1 (BytesPost w1 [] 0 4 b.length) := by
  have := bytes_at_no (iz b) p k (by simpa using hl) (by simpa using hp) (by simpa using hk) (by omega) w1 h
  rw [iz_len] at this
  exact this

set_option maxRecDepth 100000 in
set_option maxHeartbeats 4000000 in
theorem read_core {w : World} {lo hi : Nat} {v : Value} {b : List UInt8} (h : Sl w lo hi v (iz b)) (hhi : hi ≤ w.heap.size) (hl : b.length ≤ 1000000) (a : Nat) (ha : a ≤ b.length)
    (n' : List UInt8) (x' : Nat) (e' : Int) (a' : Nat) (hR : rd b a a a 0 [] = (n', x', e', a')) :
    Calls Tryz.prog 135 #[v, .int .i64 a] w (Tells w (.tuple #[.string (bs n'), .int .i64 x', .agg #[.int .i64 e', .int .i64 a']])) := by
  have HS := Lib.hid h
  obtain ⟨ad, c, rfl, _⟩ := h
  simp only [iz_len] at HS
  rw [iz_len]
  have t0 : ¬ b.length < a := by omega
  have HR := Lib.hid hR
  clear hR
  go_enter Tryz.func135, Tryz.ntmps135
  go_wp2
  go_step3
  go_wp2
  go_step3
  go_wp2
  go_loopg [7, 8, 9] a (fun g v7 v8 v9 wr => ∃ (next : Nat) (n : List UInt8), v8 = .int .i64 g ∧ v9 = .int .i64 next ∧ g ≤ b.length ∧ n.length ≤ 254 ∧ Hid (OwnU wr (w.heap.size + 1) v7 n) ∧ Hid (rd b a g g next n = (n', x', e', a')) ∧ Hid (Rdy w wr))
  case atStart => exact ⟨0, [], rfl, rfl, ha, by simp, OwnU.nil _ _, HR.out, ⟨Below.refl _ _⟩⟩
  case round =>
    obtain ⟨next, n, rfl, rfl, hg, hn, HO, HRR, HB⟩ := hrel
    obtain ⟨g, rfl⟩ : ∃ g, g = gk := ⟨_, rfl⟩
    obtain ⟨wo, rfl⟩ : ∃ wo, wo = wr := ⟨_, rfl⟩
    go_wp2
    go_loopg [7, 8, 9, 10] (b.length - g) (fun g2 v7 v8 v9 v10 wy => ∃ (here : Nat) (n : List UInt8), v8 = .int .i64 g ∧ v9 = .int .i64 next ∧ v10 = .int .i64 here ∧ here + g2 = b.length ∧ n.length ≤ 254 ∧ Hid (OwnU wy (w.heap.size + 1) v7 n) ∧ Hid (rd b a g here next n = (n', x', e', a')) ∧ Hid (Rdy w wy))
    case atStart => exact ⟨g, n, rfl, rfl, rfl, by omega, hn, HO, HRR, HB⟩
    case round =>
      clear HO HRR HB hn n
      obtain ⟨here, n, rfl, rfl, rfl, hh, hn, HO, HRR, HB⟩ := hrel
      have HSr := Lib.hid (HS.out.below ((((Below.refl w.heap.size w).alloc (Nat.le_refl _) _).trans (HB.out.below.mono (Nat.le_succ _)))) hhi)
      have HLen := Lib.hid (length_any HSr.out here (by omega) hl)
      have stop : ∀ (e : Int) (k : Nat), rd b a g here next n = ([], 0, e, k) → Hid (n' = [] ∧ x' = 0 ∧ e' = e ∧ a' = k) := fun e k hk => by
        have := hk.symm.trans HRR.out
        simp only [Prod.mk.injEq] at this
        exact ⟨this.1.symm, this.2.1.symm, this.2.2.1.symm, this.2.2.2.symm⟩
      by_cases hlt : here < b.length
      · by_cases hmid : 64 ≤ b[here].toNat ∧ b[here].toNat < 192
        · have HE := stop 4 here (rd_mid hlt hmid.1 hmid.2)
          have hv : lenV b here = .tuple #[.int .i64 0, .agg #[.int .i64 4, .int .i64 here]] := by unfold lenV; rw [dif_pos hlt, if_pos hmid]
          rw [hv] at HLen
          clear hv stop HRR hmid HSr HS HO HR
          go_wp2_with fail
          refine HLen.out.mono ?_; rintro e w1 ⟨rfl, hb⟩
          have HB1 := Lib.hid (HB.out.call hb)
          have hlt1 := HB1.out.lt
          obtain ⟨k0, k1, k3⟩ := HB1.out.cells
          clear hb
          go_wp2_with fail
          go_region
          go_wp2_with fail
          obtain ⟨m0, m1⟩ := res_set (.int .i64 4) (.int .i64 here) k0 k1
          exact bodyPost_ret (v := .tuple #[.string ⟨#[]⟩, .int .i64 0, .agg #[.int .i64 4, .int .i64 here]]) (by simp [results, Tryz.results135, go_sem, m0, m1, hlt1]) rfl ⟨by obtain ⟨rfl, rfl, rfl, rfl⟩ := HE.out; rfl, below_drewN (HB1.out.fin _ _ _) 1⟩
        · have hv : lenV b here = .tuple #[.int .i64 b[here].toNat, .agg #[.int .i64 0, .int .i64 0]] := by unfold lenV; rw [dif_pos hlt, if_neg hmid]
          rw [hv] at HLen
          clear hv
          by_cases hc : 192 ≤ b[here].toNat
          · have t1 : decide ((63 : Int) < b[here].toNat) = true := by simp; omega
            by_cases hh1 : here + 1 < b.length
            · by_cases hpt : g ≤ ptr b[here] b[here + 1]
              · have HE := stop 150 here (rd_back hlt hc hh1 hpt)
                have hfv : folV b here g = .tuple #[.int .i64 0, .int .i64 0, .agg #[.int .i64 150, .int .i64 here]] := by unfold folV; rw [dif_pos hh1, if_pos hpt]
                have HF := Lib.hid (fun (wx : World) (h1 : Rdy w wx) => hfv ▸ follow_any (HS.out.below h1.old hhi) (Nat.le_trans hhi h1.old.size) here g hlt hc hg hl)
                obtain ⟨cc, hcc⟩ : ∃ cc, b[here].toNat = cc := ⟨_, rfl⟩
                rw [hcc] at HLen t1
                clear hfv hpt stop HRR hmid HSr HS HO HR hcc hc
                go_wp2_with fail
                refine HLen.out.mono ?_; rintro e w1 ⟨rfl, hb⟩
                have HB1 := Lib.hid ((HB.out.call hb).alloc (.cells #[.int .i64 0, .int .i64 0] 42))
                clear hb
                go_wp2_with fail
                refine (HF.out _ HB1.out).mono ?_; rintro e w2 ⟨rfl, hb⟩
                have HB2 := Lib.hid (HB1.out.call hb)
                have hlt2 := HB2.out.lt
                obtain ⟨k0, k1, k3⟩ := HB2.out.cells
                clear hb
                go_wp2_with fail
                go_region
                go_wp2_with fail
                obtain ⟨m0, m1⟩ := res_set (.int .i64 150) (.int .i64 here) k0 k1
                exact bodyPost_ret (v := .tuple #[.string ⟨#[]⟩, .int .i64 0, .agg #[.int .i64 150, .int .i64 here]]) (by simp [results, Tryz.results135, go_sem, m0, m1, hlt2]) rfl ⟨by obtain ⟨rfl, rfl, rfl, rfl⟩ := HE.out; rfl, below_drewN (HB2.out.fin _ _ _) 1⟩
              · obtain ⟨T, hT⟩ : ∃ T, ptr b[here] b[here + 1] = T := ⟨_, rfl⟩
                have HN := Lib.hid (rd_go (a := a) (next := next) (n := n) hlt hc hh1 hpt)
                have hfv : folV b here g = .tuple #[.int .i64 0, .int .i64 0, .agg #[.int .i64 0, .int .i64 0]] ∨ folV b here g = .tuple #[.int .i64 T, .int .i64 (here + 2 : Nat), .agg #[.int .i64 0, .int .i64 0]] := by
                  right; unfold folV; rw [dif_pos hh1, if_neg hpt, hT]
                have hfv : folV b here g = .tuple #[.int .i64 T, .int .i64 (here + 2 : Nat), .agg #[.int .i64 0, .int .i64 0]] := by unfold folV; rw [dif_pos hh1, if_neg hpt, hT]
                have HF := Lib.hid (fun (wx : World) (h1 : Rdy w wx) => hfv ▸ follow_any (HS.out.below h1.old hhi) (Nat.le_trans hhi h1.old.size) here g hlt hc hg hl)
                rw [hT] at hpt HN
                obtain ⟨E, hE⟩ : ∃ E, here + 2 = E := ⟨_, rfl⟩
                rw [hE] at HF HN
                obtain ⟨nx, hnx⟩ : ∃ nx, (if next = 0 then E else next) = nx := ⟨_, rfl⟩
                rw [hnx] at HN
                have hor : (if (next : Int) = 0 then (E : Int) else next) = nx := by
                  rw [← hnx]; by_cases h : next = 0 <;> simp [h]
                have HOr := Lib.hid (fun gg wx c0 c1 => hor ▸ or_any gg next E wx c0 c1)
                have HRN := Lib.hid (HN.out.symm.trans HRR.out)
                have HO2 := Lib.hid (fun w1 (h : Below wr.heap.size wr w1) => HO.out.below h)
                obtain ⟨cc, hcc⟩ : ∃ cc, b[here].toNat = cc := ⟨_, rfl⟩
                rw [hcc] at HLen t1
                clear hfv stop HN HRR hmid HSr HS HO HR hcc hc hor hnx hE hT
                go_wp2_with fail
                refine HLen.out.mono ?_; rintro e w1 ⟨rfl, hb⟩
                have HB1 := Lib.hid ((HB.out.call hb).alloc (.cells #[.int .i64 0, .int .i64 0] 42))
                have HW1 := Lib.hid (hb.alloc hb.size (.cells #[.int .i64 0, .int .i64 0] 42))
                clear hb
                go_wp2_with fail
                refine (HF.out _ HB1.out).mono ?_; rintro e w2 ⟨rfl, hb⟩
                have HB2 := Lib.hid ((HB1.out.call hb).alloc (.cells #[.int .i64 0, .int .i64 0] 42))
                have HW2 := Lib.hid (have h := bel_call HW1.out hb; h.alloc h.size (.cells #[.int .i64 0, .int .i64 0] 42))
                clear hb
                go_wp2_with fail
                refine (HOr.out _ _ (by simp [go_sem]) (by simp [go_sem])).mono ?_; rintro e w3 ⟨rfl, rfl⟩
                have HB3 := Lib.hid (HB2.out.alloc (.cells #[.int .i64 next, .int .i64 E] 3))
                have HO3 := Lib.hid (HO2.out _ (HW2.out.alloc HW2.out.size (.cells #[.int .i64 next, .int .i64 E] 3)))
                clear HO2
                go_wp2_with fail
                go_roundg T
                case measure => omega
                case rel => exact ⟨nx, n, rfl, rfl, by omega, hn, HO3, HRN, HB3⟩
            · have HE := stop 4 b.length (rd_half hlt hc (by omega))
              have hfv : folV b here g = .tuple #[.int .i64 0, .int .i64 0, .agg #[.int .i64 4, .int .i64 b.length]] := by unfold folV; rw [dif_neg hh1]
              have HF := Lib.hid (fun (wx : World) (h1 : Rdy w wx) => hfv ▸ follow_any (HS.out.below h1.old hhi) (Nat.le_trans hhi h1.old.size) here g hlt hc hg hl)
              obtain ⟨cc, hcc⟩ : ∃ cc, b[here].toNat = cc := ⟨_, rfl⟩
              rw [hcc] at HLen t1
              clear hfv stop HRR hmid HSr HS HO HR hcc hc
              go_wp2_with fail
              refine HLen.out.mono ?_; rintro e w1 ⟨rfl, hb⟩
              have HB1 := Lib.hid ((HB.out.call hb).alloc (.cells #[.int .i64 0, .int .i64 0] 42))
              clear hb
              go_wp2_with fail
              refine (HF.out _ HB1.out).mono ?_; rintro e w2 ⟨rfl, hb⟩
              have HB2 := Lib.hid (HB1.out.call hb)
              have hlt2 := HB2.out.lt
              obtain ⟨k0, k1, k3⟩ := HB2.out.cells
              clear hb
              go_wp2_with fail
              go_region
              go_wp2_with fail
              obtain ⟨m0, m1⟩ := res_set (.int .i64 4) (.int .i64 b.length) k0 k1
              exact bodyPost_ret (v := .tuple #[.string ⟨#[]⟩, .int .i64 0, .agg #[.int .i64 4, .int .i64 b.length]]) (by simp [results, Tryz.results135, go_sem, m0, m1, hlt2]) rfl ⟨by obtain ⟨rfl, rfl, rfl, rfl⟩ := HE.out; rfl, below_drewN (HB2.out.fin _ _ _) 1⟩
          · have t1 : decide ((63 : Int) < b[here].toNat) = false := by simp; omega
            by_cases hsh : b.length < here + (1 + b[here].toNat)
            · have hz : b[here].toNat ≠ 0 := by omega
              have HE := stop 4 b.length (rd_short hlt hz (by omega) hsh)
              have HBy := Lib.hid (fun (wx : World) (h1 : Rdy w wx) => bytes_short (HS.out.below h1.old hhi) hl here (1 + b[here].toNat) (by omega) hsh (by omega))
              have hcb : b[here].toNat < 64 := by omega
              obtain ⟨cc, hcc⟩ : ∃ cc, b[here].toNat = cc := ⟨_, rfl⟩
              rw [hcc] at HLen t1 HBy hcb
              push_cast at HBy
              clear stop HRR hmid HSr HS HO HR hcc hc hsh hz
              go_wp2_with fail
              refine HLen.out.mono ?_; rintro e w1 ⟨rfl, hb⟩
              have HB1 := Lib.hid ((HB.out.call hb).alloc (.cells #[.int .i64 0, .int .i64 0] 42))
              have HW1 := Lib.hid (hb.alloc hb.size (.cells #[.int .i64 0, .int .i64 0] 42))
              have hlt0 := (HB.out.call hb).lt
              clear hb
              go_wp2_with fail
              refine (HBy.out _ HB1.out).mono ?_; rintro e w2 ⟨vl, gl, rfl, ho, hg1, hg2, hb⟩
              obtain ⟨f0, f1, f3⟩ := res_cells (show Below (w1.heap.size + 1) _ w2 from by simpa using hb)
              have hlt2 : w1.heap.size < w2.heap.size := below_lt hb
              have HB2 := Lib.hid (HB1.out.call hb)
              have HW2 := Lib.hid (bel_call HW1.out hb)
              have HOw := Lib.hid ho
              have hgl : w1.heap.size < gl := by simp at hg1; omega
              clear hb ho hg1 hg2
              have hne : w.heap.size ≠ w1.heap.size := Nat.ne_of_lt hlt0
              have hlt3 := HB2.out.lt
              obtain ⟨k0, k1, k3⟩ := HB2.out.cells
              go_wp2_with fail
              go_region
              go_wp2_with fail
              have HB4 := (HB2.out.set (p := ⟨w1.heap.size, 0, none⟩) hlt0 (.int .i64 4)).set (p := ⟨w1.heap.size, 1, none⟩) hlt0 (.int .i64 b.length)
              obtain ⟨j0, j1, j3⟩ := HB4.cells
              obtain ⟨m0, m1⟩ := res_set (.int .i64 4) (.int .i64 b.length) j0 j1
              exact bodyPost_ret (v := .tuple #[.string ⟨#[]⟩, .int .i64 0, .agg #[.int .i64 4, .int .i64 b.length]]) (by simp [results, Tryz.results135, go_sem, m0, m1]) rfl ⟨by obtain ⟨rfl, rfl, rfl, rfl⟩ := HE.out; rfl, below_drewN (HB4.end_ _ _) 1⟩
            · obtain ⟨m, hm⟩ : ∃ m, (b.drop here).take (1 + b[here].toNat) = m := ⟨_, rfl⟩
              have hml : m.length = 1 + b[here].toNat := by rw [← hm, List.length_take, List.length_drop]; omega
              have HBy := Lib.hid (fun (wx : World) (h1 : Rdy w wx) => bytes_cut (HS.out.below h1.old hhi) hl here (1 + b[here].toNat) (by omega))
              rw [hm] at HBy
              have hcb : b[here].toNat < 64 := by omega
              by_cases hz : b[here].toNat = 0
              · have hm0 : m = [0] := by
                  rw [← hm, hz, List.drop_eq_getElem_cons hlt, List.take_succ_cons, List.take_zero]
                  congr 1
                  exact UInt8.toNat_inj.mp hz
                obtain ⟨nx, hnx⟩ : ∃ nx, (if next = 0 then here + 1 else next) = nx := ⟨_, rfl⟩
                have hor : (if (next : Int) = 0 then (here + 1 : Int) else next) = nx := by
                  rw [← hnx]; by_cases h : next = 0 <;> simp [h]
                have HOr := Lib.hid (fun gg wx c0 c1 => hor ▸ or_any gg next (here + 1) wx c0 c1)
                have he := (rd_zero (a := a) (part := g) (next := next) (n := n) hlt hz).symm.trans HRR.out
                rw [hnx, ← hm0] at he
                have HE := Lib.hid he
                have HCV := Lib.hid (fun a5 c5 (wx : World) (h : OwnU wx (w.heap.size + 1) (.slice a5 (n.length + 1) c5) (n ++ m)) => back_U h)
                rw [hz] at HLen t1 HBy hcb hml hsh
                push_cast at HBy
                clear stop HRR hmid HSr HS HR hc hm hnx hor hm0 he hz
                rw [Nat.add_zero] at hml
                go_wp2_with fail
                refine HLen.out.mono ?_; rintro e w1 ⟨rfl, hb⟩
                have HB1 := Lib.hid ((HB.out.call hb).alloc (.cells #[.int .i64 0, .int .i64 0] 42))
                have HW1 := Lib.hid (hb.alloc hb.size (.cells #[.int .i64 0, .int .i64 0] 42))
                have hlt0 := (HB.out.call hb).lt
                have hlt9 := hb.size
                clear hb
                go_wp2_with fail
                refine (HBy.out _ HB1.out).mono ?_; rintro e w2 ⟨vl, gl, rfl, ho, hg1, hg2, hb⟩
                obtain ⟨f0, f1, f3⟩ := res_cells (show Below (w1.heap.size + 1) _ w2 from by simpa using hb)
                have hlt2 : w1.heap.size < w2.heap.size := below_lt hb
                have hgl : w1.heap.size < gl := by simp at hg1; omega
                have HB4 := Lib.hid (((HB1.out.call hb).set (p := ⟨w1.heap.size, 0, none⟩) hlt0 (.int .i64 0)).set (p := ⟨w1.heap.size, 1, none⟩) hlt0 (.int .i64 0))
                have HW4 := Lib.hid (((bel_call HW1.out hb).setCell (p := ⟨w1.heap.size, 0, none⟩) hlt9 (.int .i64 0)).setCell (p := ⟨w1.heap.size, 1, none⟩) hlt9 (.int .i64 0))
                obtain ⟨a5, c5, w5, hr5, ho5, hb5⟩ := app_own (B := w.heap.size + 1) (HO.out.below HW4.out) ((ho.set (p := ⟨w1.heap.size, 0, none⟩) (by show gl ≠ w1.heap.size; omega) (.int .i64 0)).set (p := ⟨w1.heap.size, 1, none⟩) (by show gl ≠ w1.heap.size; omega) (.int .i64 0)) (by omega) (by omega) (by have := HB4.out.lt; omega)
                rw [hml] at hr5 ho5
                have HR5 := Lib.hid hr5
                have HO5 := Lib.hid ho5
                have HB5 := Lib.hid (HB4.out.on hb5)
                have hlt5 := (HB4.out.on hb5).lt
                obtain ⟨k0, k1, k3⟩ := (HB4.out.on hb5).cells
                clear hb ho hg1 hg2 hr5 ho5 hb5
                go_wp2_with (at_builtin; refine wpList_append_run (.tmp 71) (.tmp 72) 28 28 rfl rfl rfl rfl HR5.out ?_)
                have hcv := HCV.out a5 c5
                go_region_held3 (fun wx => OwnU wx (w.heap.size + 1) (.slice a5 (n.length + 1) c5) (n ++ m)) (first | exact HO5.out | exact HO5.out.below ((Below.refl _ _).alloc (Nat.le_refl _) _).drew | exact (((HO5.out.setCell (p := ⟨w.heap.size, 0, none⟩) (Nat.lt_succ_self _) _).setCell (p := ⟨w.heap.size, 1, none⟩) (Nat.lt_succ_self _) _).below ((Below.refl _ _).alloc (Nat.le_refl _) _).drew)) (first | (go_at_call 145; refine (HOr.out _ _ (by simp [go_sem]) (by simp [go_sem])).mono ?_; rintro e w6 ⟨rfl, rfl⟩))
                go_wp2_with fail
                obtain ⟨m0, m1⟩ := res_set (.int .i64 0) (.int .i64 0) k0 k1
                exact bodyPost_ret (v := .tuple #[.string (bs (n ++ m)), .int .i64 nx, .agg #[.int .i64 0, .int .i64 0]]) (by simp [results, Tryz.results135, go_sem, m0, m1, hlt5]) rfl ⟨by have := HE.out; simp only [Prod.mk.injEq] at this; obtain ⟨rfl, rfl, rfl, rfl⟩ := this; rfl, below_drewN (HB5.out.fin _ _ _) 1⟩
              · by_cases hlong : 254 < n.length + (1 + b[here].toNat)
                · have HE := stop 3 a (rd_long hlt hz (by omega) hsh hlong)
                  obtain ⟨cc, hcc⟩ : ∃ cc, b[here].toNat = cc := ⟨_, rfl⟩
                  rw [hcc] at HLen t1 HBy hcb hml hz hlong hm
                  obtain ⟨E, hE⟩ : ∃ E, here + (1 + cc) = E := ⟨_, rfl⟩
                  rw [hcc, hE] at hsh
                  rw [hE] at HBy
                  push_cast at HBy
                  have tz : ((cc : Int) == 0) = false := by simp; omega
                  have tl : decide ((255 : Int) ≤ n.length + (1 + cc)) = true := by simp; omega
                  clear stop HRR hmid HSr HS HR hcc hc hm hE
                  go_wp2_with fail
                  refine HLen.out.mono ?_; rintro e w1 ⟨rfl, hb⟩
                  have HB1 := Lib.hid ((HB.out.call hb).alloc (.cells #[.int .i64 0, .int .i64 0] 42))
                  have HW1 := Lib.hid (hb.alloc hb.size (.cells #[.int .i64 0, .int .i64 0] 42))
                  have hlt0 := (HB.out.call hb).lt
                  have hlt9 := hb.size
                  clear hb
                  go_wp2_with fail
                  refine (HBy.out _ HB1.out).mono ?_; rintro e w2 ⟨vl, gl, rfl, ho, hg1, hg2, hb⟩
                  obtain ⟨f0, f1, f3⟩ := res_cells (show Below (w1.heap.size + 1) _ w2 from by simpa using hb)
                  have hlt2 : w1.heap.size < w2.heap.size := below_lt hb
                  have hgl : w1.heap.size < gl := by simp at hg1; omega
                  have HB4 := Lib.hid (((HB1.out.call hb).set (p := ⟨w1.heap.size, 0, none⟩) hlt0 (.int .i64 0)).set (p := ⟨w1.heap.size, 1, none⟩) hlt0 (.int .i64 0))
                  have HW4 := Lib.hid (((bel_call HW1.out hb).setCell (p := ⟨w1.heap.size, 0, none⟩) hlt9 (.int .i64 0)).setCell (p := ⟨w1.heap.size, 1, none⟩) hlt9 (.int .i64 0))
                  obtain ⟨a5, c5, w5, hr5, ho5, hb5⟩ := app_own (B := w.heap.size + 1) (HO.out.below HW4.out) ((ho.set (p := ⟨w1.heap.size, 0, none⟩) (by show gl ≠ w1.heap.size; omega) (.int .i64 0)).set (p := ⟨w1.heap.size, 1, none⟩) (by show gl ≠ w1.heap.size; omega) (.int .i64 0)) (by omega) (by omega) (by have := HB4.out.lt; omega)
                  rw [hml] at hr5 ho5
                  have HR5 := Lib.hid hr5
                  have HO5 := Lib.hid ho5
                  have HB5 := Lib.hid (HB4.out.on hb5)
                  have hlt5 := (HB4.out.on hb5).lt
                  obtain ⟨k0, k1, k3⟩ := (HB4.out.on hb5).cells
                  clear hb ho hg1 hg2 hr5 ho5 hb5
                  go_wp2_with (at_builtin; refine wpList_append_run (.tmp 71) (.tmp 72) 28 28 rfl rfl rfl rfl HR5.out ?_)
                  obtain ⟨m0, m1⟩ := res_set (.int .i64 3) (.int .i64 a) k0 k1
                  exact bodyPost_ret (v := .tuple #[.string ⟨#[]⟩, .int .i64 0, .agg #[.int .i64 3, .int .i64 a]]) (by simp [results, Tryz.results135, go_sem, m0, m1]) rfl ⟨by obtain ⟨rfl, rfl, rfl, rfl⟩ := HE.out; rfl, HB5.out.end_ _ _⟩
                · have HRN := Lib.hid ((rd_label (a := a) (part := g) (next := next) (n := n) hlt hz (by omega) hsh hlong).symm.trans HRR.out)
                  rw [hm] at HRN
                  obtain ⟨cc, hcc⟩ : ∃ cc, b[here].toNat = cc := ⟨_, rfl⟩
                  rw [hcc] at HLen t1 HBy hcb hml hz hlong hm HRN
                  obtain ⟨E, hE⟩ : ∃ E, here + (1 + cc) = E := ⟨_, rfl⟩
                  rw [hcc, hE] at hsh
                  rw [hE] at HBy HRN
                  push_cast at HBy
                  have hEh : here < E := by omega
                  have tz : ((cc : Int) == 0) = false := by simp; omega
                  have tl : decide ((255 : Int) ≤ n.length + (1 + cc)) = false := by simp; omega
                  clear stop HRR hmid HSr HS HR hcc hc hm hE
                  go_wp2_with fail
                  refine HLen.out.mono ?_; rintro e w1 ⟨rfl, hb⟩
                  have HB1 := Lib.hid ((HB.out.call hb).alloc (.cells #[.int .i64 0, .int .i64 0] 42))
                  have HW1 := Lib.hid (hb.alloc hb.size (.cells #[.int .i64 0, .int .i64 0] 42))
                  have hlt0 := (HB.out.call hb).lt
                  have hlt9 := hb.size
                  clear hb
                  go_wp2_with fail
                  refine (HBy.out _ HB1.out).mono ?_; rintro e w2 ⟨vl, gl, rfl, ho, hg1, hg2, hb⟩
                  obtain ⟨f0, f1, f3⟩ := res_cells (show Below (w1.heap.size + 1) _ w2 from by simpa using hb)
                  have hlt2 : w1.heap.size < w2.heap.size := below_lt hb
                  have hgl : w1.heap.size < gl := by simp at hg1; omega
                  have HB4 := Lib.hid (((HB1.out.call hb).set (p := ⟨w1.heap.size, 0, none⟩) hlt0 (.int .i64 0)).set (p := ⟨w1.heap.size, 1, none⟩) hlt0 (.int .i64 0))
                  have HW4 := Lib.hid (((bel_call HW1.out hb).setCell (p := ⟨w1.heap.size, 0, none⟩) hlt9 (.int .i64 0)).setCell (p := ⟨w1.heap.size, 1, none⟩) hlt9 (.int .i64 0))
                  obtain ⟨a5, c5, w5, hr5, ho5, hb5⟩ := app_own (B := w.heap.size + 1) (HO.out.below HW4.out) ((ho.set (p := ⟨w1.heap.size, 0, none⟩) (by show gl ≠ w1.heap.size; omega) (.int .i64 0)).set (p := ⟨w1.heap.size, 1, none⟩) (by show gl ≠ w1.heap.size; omega) (.int .i64 0)) (by omega) (by omega) (by have := HB4.out.lt; omega)
                  rw [hml] at hr5 ho5
                  have HR5 := Lib.hid hr5
                  have HO5 := Lib.hid ho5
                  have HB5 := Lib.hid (HB4.out.on hb5)
                  have hlt5 := (HB4.out.on hb5).lt
                  obtain ⟨k0, k1, k3⟩ := (HB4.out.on hb5).cells
                  clear hb ho hg1 hg2 hr5 ho5 hb5
                  go_wp2_with (at_builtin; refine wpList_append_run (.tmp 71) (.tmp 72) 28 28 rfl rfl rfl rfl HR5.out ?_)
                  go_roundg (b.length - E)
                  case measure => omega
                  case rel => exact ⟨E, n ++ m, rfl, rfl, rfl, by omega, by rw [List.length_append]; omega, HO5, HRN, HB5⟩
      · have he : here = b.length := by omega
        have HE := stop 4 b.length (rd_end (by omega))
        have hv : lenV b here = .tuple #[.int .i64 0, .agg #[.int .i64 4, .int .i64 b.length]] := by unfold lenV; rw [dif_neg hlt, he]
        rw [hv] at HLen
        clear hv stop HRR HSr HS HO HR he hlt
        go_wp2_with fail
        refine HLen.out.mono ?_; rintro e w1 ⟨rfl, hb⟩
        have HB1 := Lib.hid (HB.out.call hb)
        have hlt1 := HB1.out.lt
        obtain ⟨k0, k1, k3⟩ := HB1.out.cells
        clear hb
        go_wp2_with fail
        go_region
        go_wp2_with fail
        obtain ⟨m0, m1⟩ := res_set (.int .i64 4) (.int .i64 b.length) k0 k1
        exact bodyPost_ret (v := .tuple #[.string ⟨#[]⟩, .int .i64 0, .agg #[.int .i64 4, .int .i64 b.length]]) (by simp [results, Tryz.results135, go_sem, m0, m1, hlt1]) rfl ⟨by obtain ⟨rfl, rfl, rfl, rfl⟩ := HE.out; rfl, below_drewN (HB1.out.fin _ _ _) 1⟩
end Go.Proofs.YteegekpanadmkaaGreat

/-
  Read, of any bytes, at any place.
-/
namespace Go.Proofs.YteegekpanadmkaaGreat
open Go.RowKit Go.Shelf
set_option linter.unusedVariables false
set_option maxRecDepth 100000

set_option maxRecDepth 100000 in
set_option maxHeartbeats 1000000 in
theorem read_any {w : World} {lo hi : Nat} {v : Value} {b : List UInt8} (h : Sl w lo hi v (iz b)) (hhi : hi ≤ w.heap.size) (hl : b.length ≤ 1000000) (a : Int) :
    Calls Tryz.prog 135 #[v, .int .i64 a] w (Tells w (gotV (rda b a))) := by
  by_cases ha : a < 0 ∨ (b.length : Int) < a
  · have e : rda b a = ([], 0, 5, 0) := by unfold rda; rw [if_pos ha]
    rw [e]
    obtain ⟨ad, c, rfl, _⟩ := h
    rw [iz_len]
    go_enter Tryz.func135, Tryz.ntmps135
    go_wp2
    go_step3
    go_wp2
    all_goals
      simp [Exit.noGoto, bodyPost, results, Tryz.results135, go_sem]
      exact ⟨rfl, (Below.refl _ _).alloc (Nat.le_refl _) _⟩
  · obtain ⟨p, rfl⟩ : ∃ p : Nat, a = p := ⟨a.toNat, by omega⟩
    have e : rda b p = rd b p p p 0 [] := by unfold rda; rw [if_neg ha, Int.toNat_natCast]
    rw [e]
    exact read_core h hhi hl p (by omega) _ _ _ _ rfl
end Go.Proofs.YteegekpanadmkaaGreat

/-
  The reader that goes along a message: a name, a number.
-/
namespace Go.Proofs.YteegekpanadmkaaGreat
open Go.RowKit Go.Shelf
set_option linter.unusedVariables false
set_option linter.unusedSimpArgs false
set_option maxRecDepth 100000

structure RS where
  a : Int
  e : Int
  p : Int

structure Rdr (w : World) (r : Nat) (vb : Value) (s : RS) : Prop where
  c0 : w.cell? ⟨r, 0, none⟩ = some vb
  c1 : w.cell? ⟨r, 1, none⟩ = some (.int .i64 s.a)
  c2 : w.cell? ⟨r, 2, none⟩ = some (.int .i64 s.e)
  c3 : w.cell? ⟨r, 3, none⟩ = some (.int .i64 s.p)
  fz : ∀ j, w.frozen? ⟨r, j, none⟩ = false

structure Cel (w : World) (q : Nat) (l : List Value) : Prop where
  c : ∀ j (h : j < l.length), w.cell? ⟨q, j, none⟩ = some l[j]
  fz : ∀ j, w.frozen? ⟨q, j, none⟩ = false

section
variable {w w' : World} {r q : Nat} {vb : Value} {s : RS} {l : List Value}
theorem Cel.lt (h : Cel w q l) (h0 : 0 < l.length) : q < w.heap.size := World.block_lt_of_cell? w ⟨q, 0, none⟩ (h.c 0 h0)
theorem Cel.aside {G : Nat → Prop} (h : Cel w q l) (h0 : 0 < l.length) (ha : Aside G w w') (hg : ¬ G q) : Cel w' q l :=
  ⟨fun j hj => ha.cell_lt (h.c j hj) hg, fun j => (ha.frozen (p := ⟨q, j, none⟩) (h.lt h0) hg).trans (h.fz j)⟩
theorem Cel.below (h : Cel w q l) (h0 : 0 < l.length) (hb : Below w.heap.size w w') : Cel w' q l := h.aside (G := fun _ => False) h0 (Aside.of_all hb) (fun h => h)
theorem Cel.set (h : Cel w q l) {o : Nat} (ho : o < l.length) (v : Value) : Cel (w.setCell ⟨q, o, none⟩ v) q (l.set o v) := by
  refine ⟨fun j hj => ?_, fun j => by rw [World.frozen?_setCell]; exact h.fz j⟩
  rw [List.length_set] at hj
  by_cases hjo : o = j
  · subst hjo
    rw [List.getElem_set_self]
    exact World.cell?_setCell_same _ _ _ (h.c o ho)
  · rw [List.getElem_set_ne hjo, World.cell?_setCell_other _ _ _ _ (fun e => hjo (congrArg Addr.off e))]
    exact h.c j hj
theorem Cel.other (h : Cel w q l) {a : Addr} (ha : a.block ≠ q) (v : Value) : Cel (w.setCell a v) q l :=
  ⟨fun j hj => by rw [World.cell?_setCell_other _ _ _ _ (fun e => ha (congrArg Addr.block e))]; exact h.c j hj, fun j => by rw [World.frozen?_setCell]; exact h.fz j⟩
end

def stN (b : List UInt8) (s : RS) : RS := if s.e ≠ 0 then s else ⟨(rda b s.a).2.1, (rda b s.a).2.2.1, (rda b s.a).2.2.2⟩
def st2 (b : List UInt8) (s : RS) : RS := if s.e ≠ 0 then s else ⟨getF 2 b.length s.a (s.a + 2), getE 2 b.length s.a, getA 2 b.length s.a⟩
def vl2 (b : List UInt8) (s : RS) (old : Int) : Int := if s.e ≠ 0 then old else getF 2 b.length s.a (nAt2 (iz b) s.a.toNat)
def st4 (b : List UInt8) (s : RS) : RS := if s.e ≠ 0 then s else ⟨getF 4 b.length s.a (s.a + 4), getE 4 b.length s.a, getA 4 b.length s.a⟩
structure Half (w w2 : World) (r q o : Nat) (vb v old : Value) (l : List Value) (s t : RS) (f g h : Bool) : Prop where
  rd : Rdr w2 r vb ⟨if g = true then t.a else s.a, if h = true then t.e else s.e, if h = true then t.p else s.p⟩
  ce : Cel w2 q (if f = true then l.set o v else l)
  ho : o < l.length
  hne : r ≠ q
  has : Aside (fun b => b = r ∨ b = q) w w2
  old : w2.cell? ⟨q, o, none⟩ = some (if f = true then v else old)

section
variable {w w2 w3 : World} {r q o : Nat} {vb v old : Value} {l : List Value} {s t : RS} {f g h : Bool}
end

end Go.Proofs.YteegekpanadmkaaGreat

/-
  SameBytes.
-/
namespace Go.Proofs.YteegekpanadmkaaGreat
open Go.RowKit
set_option linter.unusedVariables false
set_option maxRecDepth 100000

theorem conv_sl {w : World} {lo hi : Nat} {v : Value} {l : List Int} (h : Sl w lo hi v l) : (convert 28 9 v).run Tryz.prog w = .ok (.string (strOfNums l)) w := by
  obtain ⟨a, c, rfl, hc, hn, hp⟩ := h
  by_cases h0 : 0 < l.length
  · obtain ⟨b, off, rfl, _, _, hx⟩ := hp h0
    exact run_convert_bytes_arg w 28 5 Tryz.underlying28 Tryz.underlying5 b off l.length c l rfl hx 9 Tryz.underlying9
  · have hl : l = [] := List.eq_nil_of_length_eq_zero (by omega)
    subst hl
    rcases a with _ | ad
    · rw [run_convert_bytes_nil w 28 5 Tryz.underlying28 Tryz.underlying5 _ c 9 Tryz.underlying9]; rfl
    · rw [run_convert_bytes_string w 28 9 5 _ _ c Tryz.underlying28 Tryz.underlying5 Tryz.underlying9, run_bytesToString w ad _ c [] (by simpa using run_loadCells_list (P := Tryz.prog) w ad [] (by simp))]
      rfl

set_option maxHeartbeats 400000 in
theorem same_any {w : World} {lo hi lo' hi' : Nat} {v v' : Value} {l : List Int} (h : Sl w lo hi v l) (h' : Sl w lo' hi' v' l) :
    Calls Tryz.prog 14 #[v, v'] w fun e w' => e = .returned (.bool true) ∧ w = w' := by
  have c1 := conv_sl h
  have c2 := conv_sl h'
  clear h h'
  go_enter Tryz.func14, Tryz.ntmps14
  go_wp2
  go_ret
  exact ⟨rfl, rfl⟩
end Go.Proofs.YteegekpanadmkaaGreat

/-
  The document's Read.
-/
namespace Go.Proofs.YteegekpanadmkaaGreat
open Go.RowKit Go.Shelf
set_option linter.unusedVariables false
set_option maxRecDepth 100000

theorem lex_lt {L p i T : Nat} (hT : T < p) (hi : i ≤ L) : T * (L + 1) + (L - T) < p * (L + 1) + (L - i) := by
  have h := Nat.mul_le_mul_right (L + 1) (show T + 1 ≤ p from hT)
  rw [Nat.add_mul] at h
  generalize T * (L + 1) = x at *
  generalize p * (L + 1) = y at *
  omega

end Go.Proofs.YteegekpanadmkaaGreat

/-
  What is read is a name, or there is a fault; plainly.
-/
namespace Go.Proofs.YteegekpanadmkaaGreat
open Go.RowKit Go.Shelf
set_option linter.unusedVariables false
set_option maxRecDepth 100000

theorem rd_ind (b : List UInt8) (a : Nat) (M : Nat → Nat → Nat → List UInt8 → Got → Prop)
    (fault : ∀ part i next n (e : Int) k, e ≠ 0 → (k ≤ b.length ∨ k = a) → M part i next n ([], 0, e, k))
    (zero : ∀ part i next n (h : i < b.length), b[i].toNat = 0 → M part i next n (n ++ [0], if next = 0 then i + 1 else next, 0, 0))
    (label : ∀ part i next n R (h : i < b.length), b[i].toNat ≠ 0 → b[i].toNat < 64 → i + (1 + b[i].toNat) ≤ b.length → n.length + (1 + b[i].toNat) ≤ 254 →
      M part (i + (1 + b[i].toNat)) next (n ++ (b.drop i).take (1 + b[i].toNat)) R → M part i next n R)
    (lead : ∀ part i next n R (h : i + 1 < b.length), 192 ≤ (b[i]'(by omega)).toNat → ptr (b[i]'(by omega)) b[i + 1] < part →
      M (ptr (b[i]'(by omega)) b[i + 1]) (ptr (b[i]'(by omega)) b[i + 1]) (if next = 0 then i + 2 else next) n R → M part i next n R)
    (part i next : Nat) (n : List UInt8) : M part i next n (rd b a part i next n) := by
  obtain ⟨g, hg⟩ : ∃ g, part * (b.length + 1) + (b.length - i) = g := ⟨_, rfl⟩
  induction g using Nat.strongRecOn generalizing part i next n with
  | _ g ih =>
    by_cases h : i < b.length
    · by_cases h0 : b[i].toNat = 0
      · rw [rd_zero h h0]; exact zero _ _ _ _ h h0
      by_cases h1 : b[i].toNat < 64
      · by_cases h2 : b.length < i + (1 + b[i].toNat)
        · rw [rd_short h h0 h1 h2]; exact fault _ _ _ _ _ _ (by decide) (.inl (Nat.le_refl _))
        by_cases h3 : 254 < n.length + (1 + b[i].toNat)
        · rw [rd_long h h0 h1 h2 h3]; exact fault _ _ _ _ _ _ (by decide) (.inr rfl)
        rw [rd_label h h0 h1 h2 h3]
        exact label _ _ _ _ _ h h0 h1 (by omega) (by omega) (ih _ (by rw [← hg]; omega) _ _ _ _ rfl)
      by_cases h2 : b[i].toNat < 192
      · rw [rd_mid h (by omega) h2]; exact fault _ _ _ _ _ _ (by decide) (.inl (by omega))
      by_cases h3 : i + 1 < b.length
      · by_cases h4 : part ≤ ptr b[i] b[i + 1]
        · rw [rd_back h (by omega) h3 h4]; exact fault _ _ _ _ _ _ (by decide) (.inl (by omega))
        rw [rd_go h (by omega) h3 h4]
        exact lead _ _ _ _ _ h3 (by omega) (by omega) (ih _ (by rw [← hg]; exact lex_lt (by omega) (by omega)) _ _ _ _ rfl)
      · rw [rd_half h (by omega) (by omega)]; exact fault _ _ _ _ _ _ (by decide) (.inl (Nat.le_refl _))
    · rw [rd_end (by omega)]; exact fault _ _ _ _ _ _ (by decide) (.inl (Nat.le_refl _))

theorem cut_label {b : List UInt8} {i : Nat} (h : i < b.length) (h2 : i + (1 + b[i].toNat) ≤ b.length) :
    (b.drop i).take (1 + b[i].toNat) = wire [(b.drop (i + 1)).take b[i].toNat] ∧ ((b.drop (i + 1)).take b[i].toNat).length = b[i].toNat := by
  have hl : ((b.drop (i + 1)).take b[i].toNat).length = b[i].toNat := by rw [List.length_take, List.length_drop]; omega
  refine ⟨?_, hl⟩
  rw [List.drop_eq_getElem_cons h, Nat.add_comm 1, List.take_succ_cons, wire, wire, hl]
  simp

def Fine (b : List UInt8) (ls : List (List UInt8)) (R : Got) : Prop :=
  (R.2.2.1 = 0 ∧ R.2.2.2 = 0 ∧ ∃ ls', R.1 = wire (ls ++ ls') ++ [0] ∧ Shorts (ls ++ ls')) ∨ (R.2.2.1 ≠ 0 ∧ R.1 = [] ∧ R.2.1 = 0 ∧ R.2.2.2 ≤ b.length)

theorem rd_fine (b : List UInt8) (a : Nat) (ha : a ≤ b.length) (part i next : Nat) (n : List UInt8) (ls : List (List UInt8)) (hn : n = wire ls) (hs : Shorts ls) : Fine b ls (rd b a part i next n) := by
  refine rd_ind b a (fun _ _ _ n R => ∀ ls, n = wire ls → Shorts ls → Fine b ls R) ?_ ?_ ?_ ?_ part i next n ls hn hs
  · intro part i next n e k he hk ls _ _
    exact .inr ⟨he, rfl, rfl, by show k ≤ b.length; omega⟩
  · intro part i next n h h0 ls hn hs
    exact .inl ⟨rfl, rfl, [], by rw [List.append_nil]; exact congrArg (· ++ [0]) hn, by rw [List.append_nil]; exact hs⟩
  · intro part i next n R h h0 h1 h2 h3 ih ls hn hs
    obtain ⟨e1, e2⟩ := cut_label h h2
    rcases ih (ls ++ [(b.drop (i + 1)).take b[i].toNat]) (by rw [wire_app, e1, hn]) ⟨fun x hx => by
        rcases List.mem_append.mp hx with hx | hx
        · exact hs.1 x hx
        · rw [List.mem_singleton.mp hx]; omega, by rw [wire_snoc, e2, ← hn]; omega⟩ with ⟨r1, r2, ls', r3, r4⟩ | r
    · exact .inl ⟨r1, r2, (b.drop (i + 1)).take b[i].toNat :: ls', by rw [r3]; simp, by simpa using r4⟩
    · exact .inr r
  · intro part i next n R h h0 h1 ih ls hn hs
    exact ih ls hn hs

theorem rd_kept (b : List UInt8) (a part i next : Nat) (n : List UInt8) (h0 : next ≠ 0) (he : (rd b a part i next n).2.2.1 = 0) : (rd b a part i next n).2.1 = next := by
  refine rd_ind b a (fun _ _ next _ R => next ≠ 0 → R.2.2.1 = 0 → R.2.1 = next) ?_ ?_ ?_ ?_ part i next n h0 he
  · intro part i next n e k he hk h0 h; exact absurd h he
  · intro part i next n h h0 hn _; show (if next = 0 then i + 1 else next) = next; rw [if_neg hn]
  · intro part i next n R h h0 h1 h2 h3 ih hn he; exact ih hn he
  · intro part i next n R h h0 h1 ih hn he
    have := ih (by rw [if_neg hn]; exact hn) he
    rw [if_neg hn] at this
    exact this

theorem rd_next (b : List UInt8) (a part i : Nat) (n : List UInt8) (hn : n.length ≤ 254) (he : (rd b a part i 0 n).2.2.1 = 0) :
    i < (rd b a part i 0 n).2.1 ∧ (rd b a part i 0 n).2.1 ≤ b.length ∧ (rd b a part i 0 n).2.1 + n.length ≤ i + 256 := by
  have := rd_ind b a (fun part i next n R => next = 0 → n.length ≤ 254 → R = rd b a part i next n → R.2.2.1 = 0 → i < R.2.1 ∧ R.2.1 ≤ b.length ∧ R.2.1 + n.length ≤ i + 256) ?_ ?_ ?_ ?_ part i 0 n rfl hn rfl he
  · exact this
  · intro part i next n e k he hk _ _ _ h; exact absurd h he
  · intro part i next n h h0 hn hl _ _
    subst hn
    show i < i + 1 ∧ i + 1 ≤ b.length ∧ i + 1 + n.length ≤ i + 256
    omega
  · intro part i next n R h h0 h1 h2 h3 ih hn hl hR he
    have hlen : ((b.drop i).take (1 + b[i].toNat)).length = 1 + b[i].toNat := by rw [List.length_take, List.length_drop]; omega
    have := ih hn (by rw [List.length_append, hlen]; omega) (by rw [hR, rd_label h h0 h1 (by omega) (by omega)]) he
    rw [List.length_append, hlen] at this
    omega
  · intro part i next n R h h0 h1 ih hn hl hR he
    subst hn
    rw [rd_go (by omega) h0 h (by omega), if_pos rfl] at hR
    have := rd_kept b a _ _ (i + 2) n (by omega) (by rw [← hR]; exact he)
    rw [← hR] at this
    omega

end Go.Proofs.YteegekpanadmkaaGreat
