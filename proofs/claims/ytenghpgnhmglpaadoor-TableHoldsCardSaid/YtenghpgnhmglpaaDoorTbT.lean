/- The table keeps the laws. -/
import Derived.Test.YtenghpgnhmglpaaDoorRtU
namespace Go.Proofs.YtenghpgnhmglpaaDoor
open Go.RowKit Go.Shelf
theorem tbLaws : TbLaws Tb where
  tells h hl := h.tells hl
  good h := h.good
  other h k hc hd := h.other k hc hd
  tab h := h.tab
  below h k := h.below k
  make w χ c ht h0 hc := tb_new w χ c ht h0 hc
  put k x h _ hx hl := tb_put k x h hx hl
  set k x h _ hx _ := tb_set k x h hx
  drop k h _ hl := tb_drop k h hl
  copy d h hl hd := tb_copy d h hl hd
  own d h hl hd := tb_own d h hl hd
end Go.Proofs.YtenghpgnhmglpaaDoor
